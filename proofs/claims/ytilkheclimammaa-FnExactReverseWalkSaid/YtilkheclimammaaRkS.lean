/- The model's ReverseWalk. -/
import Derived.Test.YtilkheclimammaaRkI
namespace Go.Proofs.Ytilkheclimammaa
set_option maxRecDepth 100000
open Go.ChangeShapes Go.WideShapes Go.ChangeAt Go.RowKit
set_option linter.unusedVariables false
set_option linter.unusedSimpArgs false

/-- append of a slice of steps onto steps of the call's own. -/
theorem run_append_steps (w : World) (base : Nat) (ty : TypeId) (v : Value) (xs : List Stp) (hown : OwnSt base w v xs) (ao : Option Addr) (m c : Nat) (ys : List Stp) (hy : StpsAt w (.slice ao m c) ys)
    (hlen : xs.length + ys.length ≤ 4194304) (hbase : base ≤ w.heap.size) :
    ∃ v' w', (Builtin.append_ #[30, 30] ty #[v, .slice ao m c]).run Try.prog w = .ok v' w' ∧ OwnSt base w' v' (xs ++ ys) ∧ w.grownBy w' v.ownBlock ∧ (v'.ownBlock = v.ownBlock ∨ v'.ownBlock = some w.heap.size) := by
  obtain ⟨hs, rfl⟩ := steps_src hy
  obtain ⟨v', w', hr, h1, h2, h3⟩ := run_append_src w base 30 ty 33 (sv zeroS) 2 16 Try.underlying30 info_step rfl (by decide) v xs.length (scells xs) hown ao ys.length c (scells ys) (by rw [scells_length]) hs
    (scells_oneCell ys) (by unfold maxLen; omega) (by omega) hbase
  refine ⟨v', w', hr, ?_, h2, h3⟩
  unfold OwnSt
  rw [List.length_append, scells_append]; exact h1
theorem wp_append_steps {w : World} {o : Oper} {a : Act} {K : Act → World → Prop} {Q : Exit → Act → World → Prop} (s x : Operand)
    (ho : o.op = .call { callee := .builtin .append, args := #[s, x], argTypes := #[30, 30] }) (base : Nat) (v : Value) (xs : List Stp) (hs : a.eval s = v) (hown : OwnSt base w v xs) (ao : Option Addr) (m c : Nat) (hx : a.eval x = .slice ao m c)
    (ys : List Stp) (hy : StpsAt w (.slice ao m c) ys) (hlen : xs.length + ys.length ≤ 4194304) (hbase : base ≤ w.heap.size)
    (h : ∀ v' w', OwnSt base w' v' (xs ++ ys) → w.grownBy w' v.ownBlock → (v'.ownBlock = v.ownBlock ∨ v'.ownBlock = some w.heap.size) → K (a.put o.dst v') w') : o.wp Try.prog a w K Q := by
  obtain ⟨v', w', hr, h1, h2, h3⟩ := run_append_steps w base o.type v xs hown ao m c ys hy hlen hbase
  exact wp_of_run_append s x _ ho v _ v' w' hs hx hr (h v' w' h1 h2 h3)
theorem step_lit (wr : World) (s : Stp) : StpsAt (wr.alloc (.cells #[.int .i64 s.id, .bool (!s.inv)] 33)).drew (.slice (some ⟨wr.heap.size, 0, none⟩) 1 1) [turnS s] := by
  have hB : Blk (wr.alloc (.cells #[.int .i64 s.id, .bool (!s.inv)] 33)).drew wr.heap.size 33 #[.int .i64 s.id, .bool (!s.inv)] := (Blk.new rfl _ _ : Blk (wr.alloc _) _ _ _).drew
  refine ⟨some ⟨wr.heap.size, 0, none⟩, 1, rfl, fun i hi => ?_⟩
  have hi0 : i = 0 := by simp at hi; exact hi
  subst hi0
  obtain ⟨c0, c1, _, _⟩ := hB.two
  exact ⟨wr.heap.size, 0, rfl, hB.lt, c0, c1⟩
theorem backS_get (ss : List Stp) (k j : Nat) (h : k + j + 1 = ss.length) (hj : j < ss.length) (hk : k < (backS ss).length) : (backS ss)[k] = turnS ss[j] := by
  have e : ss.length - 1 - k = j := by omega
  simp only [backS, List.getElem_reverse, List.getElem_map, List.length_map, e]
set_option maxHeartbeats 4000000 in
set_option maxRecDepth 100000 in
theorem specRK_any (v u : Value) (g : Grf) (x : Wlk) (w : World) (h : GrfAt w v g) (hu : WlkAt w u x) (h1 : g.vs.length ≤ 1048577) (h2 : g.es.length ≤ 1048577) (h3 : x.ss.length ≤ 1048577) :
    Calls Try.prog 49 #[v, u] w (WBOut w (revX g x) (validW g x)) := by
  have HG := Lib.hid h
  have HU := Lib.hid hu
  obtain ⟨a, b, rfl, ha, hb⟩ := h
  obtain ⟨ao, ac, rfl, _⟩ := ha.row
  obtain ⟨bo, bc, rfl⟩ := hb.len
  obtain ⟨so, rfl, hss⟩ := hu
  have HSS := Lib.hid hss
  obtain ⟨sao, sac, rfl, HS⟩ := hss
  clear ha hb
  obtain ⟨y, hy⟩ : ∃ y, y = (((w.alloc (.cells #[.slice ao g.vs.length ac, .slice bo g.es.length bc] 27)).alloc (.cells #[.int .i64 x.st, .slice sao x.ss.length sac] 53)).alloc (.cells #[.int .i64 0, .slice none 0 0] 53)) := ⟨_, rfl⟩
  have hs0 : Since w y := by rw [hy]; exact (((Since.refl w).alloc _).alloc _).alloc _
  have hz : w.heap.size + 1 + 1 + 1 = y.heap.size := by rw [hy]; simp
  have BG : Hid (Blk y w.heap.size 27 #[.slice ao g.vs.length ac, .slice bo g.es.length bc]) := by rw [hy]; exact ((Blk.new rfl _ _).alloc _).alloc _
  have BW : Hid (Blk y (w.heap.size + 1) 53 #[.int .i64 x.st, .slice sao x.ss.length sac]) := by rw [hy]; exact (Blk.new (by simp) _ _).alloc _
  have BR : Hid (Blk y (w.heap.size + 1 + 1) 53 #[.int .i64 0, .slice none 0 0]) := by rw [hy]; exact Blk.new (by simp) _ _
  have HL5 := Lib.hid (fun V U W (k1 : GrfAt W V g) (k2 : WlkAt W U x) => l5Nodes_any V U g x W k1 k2 h1 h2 h3)
  unfold NodOut at HL5
  cases hf : folG g x with
  | none =>
    obtain ⟨k1, k2, _, _⟩ := endW_none hf
    have HV := Lib.hid k1
    rw [k1] at HL5
    clear k1 k2 hf
    go_enter Try.func49, Try.ntmps49
    go_wp2_with fail
    rw [← hy]
    clear hy
    refine (HL5.out _ _ _ (HG.out.since hs0) (HU.out.since hs0)).mono ?_
    rintro en w1 ⟨b1, rfl, ho1, hs1⟩
    have hs01 := hs0.trans hs1
    clear ho1
    obtain ⟨q0, q1, q2, q3⟩ := (BR.out.since hs1).two
    go_wp2_with fail
    refine bodyPost_ret (v := .tuple #[.agg #[.int .i64 0, .slice none 0 0], .bool false]) (by simp [results, Try.results49, go_sem, *]) rfl ?_
    refine wbOut_no HV.out ?_
    exact (hs01.setCell (by simp; omega) _).setCell (by simp; omega) _
  | some ts =>
    obtain ⟨k1, k2, k3, _⟩ := endW_some hf
    have HV := Lib.hid k1
    have HEW := Lib.hid k3
    have HTL9 := (folG_len hf).2
    rw [k1, k2] at HL5
    clear k1 k2 k3 hf
    obtain ⟨n, hn⟩ : ∃ n, n = x.ss.length := ⟨_, rfl⟩
    have hn9 : n ≤ 1048577 := by omega
    have HN := Lib.hid hn
    have HBL : Hid ((backS x.ss).length = n) := by unfold Hid; rw [backS_length]; exact hn.symm
    rw [← hn] at HU BW hy ⊢
    clear hn
    obtain ⟨e0, he0⟩ : ∃ e0, e0 = endW g x := ⟨_, rfl⟩
    have HE0 := Lib.hid he0
    clear he0
    go_enter Try.func49, Try.ntmps49
    go_wp2_with fail
    rw [← hy]
    clear hy
    refine (HL5.out _ _ _ (HG.out.since hs0) (HU.out.since hs0)).mono ?_
    rintro en w1 ⟨b1, rfl, ho1, hs1⟩
    have hs01 := hs0.trans hs1
    have hz1 : w.heap.size + 1 + 1 + 1 ≤ w1.heap.size := by have := hs1.size; omega
    obtain ⟨oo, oc, rfl, HOC⟩ := ho1.at.row
    have hL : (nodesT x.st ts).length = ts.length + 1 := nodesT_len _ _
    obtain ⟨bn, on, rfl, hbn, f0⟩ := HOC.out ts.length (by omega)
    rw [nodesT_last, ← HEW.out, ← HE0.out] at f0
    rw [hL]
    clear ho1 HOC hL
    generalize ts.length = kk at HTL9 f0 ⊢
    have hkk0 : (0 : Int) ≤ (kk : Int) := by omega
    have hBX : Hid (Blk (w1.alloc (.cells #[.int .i64 e0, .slice none 0 0] 53)) w1.heap.size 53 #[.int .i64 e0, .slice none 0 0]) := Blk.new rfl _ _
    have hsx : Since w1 (w1.alloc (.cells #[.int .i64 e0, .slice none 0 0] 53)) := (Since.refl w1).alloc _
    obtain ⟨r0, r1, _, _⟩ := (BW.out.since (hs1.trans hsx)).two
    go_wp2_with fail
    clear r0 r1 f0
    obtain ⟨XB, hXB⟩ : ∃ XB, XB = w1.heap.size := ⟨_, rfl⟩
    rw [← hXB] at hBX ⊢
    have HXB : Hid (w1.heap.size = XB ∧ (w1.alloc (.cells #[.int .i64 e0, .slice none 0 0] 53)).heap.size = XB + 1) := ⟨hXB.symm, by rw [hXB]; simp⟩
    clear hXB
    obtain ⟨y1, hy1⟩ : ∃ y1, y1 = w1.alloc (.cells #[.int .i64 e0, .slice none 0 0] 53) := ⟨_, rfl⟩
    rw [← hy1] at hBX hsx HXB ⊢
    clear hy1
    have BW1 := Lib.hid (BW.out.since hs1)
    have BR1 := Lib.hid (BR.out.since hs1)
    clear BW BR BG hs1
    obtain ⟨y, hyy⟩ : ∃ y, y = w1 := ⟨_, rfl⟩
    rw [← hyy] at hs01 hz1 hsx HXB BW1 BR1 hbn
    clear hyy
    go_loopw [9] (fun i wr => ∃ (k : Nat) (v : Value), k ≤ n ∧ i = .int .i64 ((n : Int) - 1 - (k : Int)) ∧ Hid (Blk wr XB 53 #[.int .i64 e0, v]) ∧ Hid (OwnSt (XB + 1) wr v ((backS x.ss).take k)) ∧ Since y wr) (fun i _ => (intOf i + 1).toNat)
    case atStart => exact ⟨0, .slice none 0 0, Nat.zero_le _, by simp, hBX.out, World.ownsRow_nil _ _ _ _, hsx⟩
    case round =>
      obtain ⟨k, v, hk, rfl, HB, HOw, hsw⟩ := hrel
      obtain ⟨vo, vc, rfl⟩ := HOw.out.len
      have hs0w := hs01.trans hsw
      by_cases hlt : k < n
      · obtain ⟨j, hj⟩ : ∃ j : Nat, (n : Int) - 1 - (k : Int) = (j : Int) := ⟨n - 1 - k, by omega⟩
        have HJ : Hid (k + j + 1 = n) := by unfold Hid; omega
        have hjn : j < n := by omega
        rw [hj]
        clear hj
        have hx : j < x.ss.length := by have := HN.out; omega
        obtain ⟨be, oe, rfl, hbe, d0, d1⟩ := HS.out j hx
        have HKW : Hid (∀ w', Since y w' → w'.cell? ⟨w.heap.size + 1, 0, none⟩ = some (.int .i64 x.st) ∧ w'.cell? ⟨w.heap.size + 1, 1, none⟩ = some (.slice (some ⟨be, oe, none⟩) n sac) ∧ w'.cell? ⟨be, oe + j * 2, none⟩ = some (.int .i64 x.ss[j].id) ∧ w'.cell? ⟨be, oe + j * 2 + 1, none⟩ = some (.bool x.ss[j].inv)) := by
          intro w' hs
          obtain ⟨y0, y1, _, _⟩ := (BW1.out.since hs).two
          have s1 := since_cells (hs01.trans hs) hbe
          exact ⟨y0, y1, (s1 _).trans d0, (s1 _).trans d1⟩
        have HKC : Hid (∀ w', Since wr w' → w'.cell? ⟨w.heap.size + 1, 0, none⟩ = some (.int .i64 x.st) ∧ w'.cell? ⟨w.heap.size + 1, 1, none⟩ = some (.slice (some ⟨be, oe, none⟩) n sac) ∧ w'.cell? ⟨be, oe + j * 2, none⟩ = some (.int .i64 x.ss[j].id) ∧ w'.cell? ⟨be, oe + j * 2 + 1, none⟩ = some (.bool x.ss[j].inv)) := fun w' hs => HKW.out w' (hsw.trans hs)
        have HTK : Hid ((backS x.ss).take (k + 1) = (backS x.ss).take k ++ [turnS x.ss[j]]) := by
          have hkb : k < (backS x.ss).length := by have := HBL.out; omega
          unfold Hid
          rw [List.take_succ_eq_append_getElem hkb, backS_get x.ss k j (by have := HJ.out; have := HN.out; omega) hx hkb]
        have HLN : Hid (((backS x.ss).take k).length + [turnS x.ss[j]].length ≤ 4194304) := by unfold Hid; simp [backS_length]; have := HN.out; omega
        have jj0 : (0 : Int) ≤ (j : Int) := by omega
        have jj1 : (j : Int) < (n : Int) := by omega
        generalize hvv : Value.slice vo ((backS x.ss).take k).length vc = v at HB HOw
        clear d0 d1
        go_wp2_with fail
        refine wp_region_held_drew (S := (fun w' => w'.cell? ⟨w.heap.size + 1, 0, none⟩ = some (.int .i64 x.st) ∧ w'.cell? ⟨w.heap.size + 1, 1, none⟩ = some (.slice (some ⟨be, oe, none⟩) n sac) ∧ w'.cell? ⟨be, oe + j * 2, none⟩ = some (.int .i64 x.ss[j].id) ∧ w'.cell? ⟨be, oe + j * 2 + 1, none⟩ = some (.bool x.ss[j].inv))) (by kernel_rfl) (HKC.out _ (Since.refl _).drew) (fun hHeld => ?_)
        refine take_yes 0 (some 34) (v := ?_) rfl (by kernel_rfl) (by kernel_rfl) (by kernel_rfl) (by kernel_rfl) (fun _ _ _ h => h) (by rfl) (by assumption) ?_ ?_
        rotate_left
        · (intro w' hSw; (try dsimp only at hSw); go_simp; try with_reducible rfl)
        try simp only [Act.put, List.setIfInBounds_toArray, List.set_cons_zero, List.set_cons_succ]
        refine take_yes 2 (some 36) (v := ?_) rfl (by kernel_rfl) (by kernel_rfl) (by kernel_rfl) (by kernel_rfl) (fun _ _ _ h => h) (by rfl) (by assumption) ?_ ?_
        rotate_left
        · (intro w' hSw; (try dsimp only at hSw); go_simp; try with_reducible rfl)
        try simp only [Act.put, List.setIfInBounds_toArray, List.set_cons_zero, List.set_cons_succ]
        refine take_yes 3 (some 37) (v := ?_) rfl (by kernel_rfl) (by kernel_rfl) (by kernel_rfl) (by kernel_rfl) (fun _ _ _ h => h) (by rfl) (by assumption) ?_ ?_
        rotate_left
        · (intro w' hSw; (try dsimp only at hSw); go_simp; try with_reducible rfl)
        try simp only [Act.put, List.setIfInBounds_toArray, List.set_cons_zero, List.set_cons_succ]
        refine take_yes 4 (some 38) (v := ?_) rfl (by kernel_rfl) (by kernel_rfl) (by kernel_rfl) (by kernel_rfl) (fun _ _ _ h => h) (by rfl) (by assumption) ?_ ?_
        rotate_left
        · (intro w' hSw; (try dsimp only at hSw); go_simp; try with_reducible rfl)
        try simp only [Act.put, List.setIfInBounds_toArray, List.set_cons_zero, List.set_cons_succ]
        refine take_yes 5 (some 39) (v := ?_) rfl (by kernel_rfl) (by kernel_rfl) (by kernel_rfl) (by kernel_rfl) (fun _ _ _ h => h) (by rfl) (by assumption) ?_ ?_
        rotate_left
        · (intro w' hSw; (try dsimp only at hSw); go_simp; try with_reducible rfl)
        try simp only [Act.put, List.setIfInBounds_toArray, List.set_cons_zero, List.set_cons_succ]
        refine take_yes 6 (some 40) (v := ?_) rfl (by kernel_rfl) (by kernel_rfl) (by kernel_rfl) (by kernel_rfl) (fun _ _ _ h => h) (by rfl) (by assumption) ?_ ?_
        rotate_left
        · (intro w' hSw; (try dsimp only at hSw); go_simp; try with_reducible rfl)
        try simp only [Act.put, List.setIfInBounds_toArray, List.set_cons_zero, List.set_cons_succ]
        refine take_yes 7 (some 41) (v := ?_) rfl (by kernel_rfl) (by kernel_rfl) (by kernel_rfl) (by kernel_rfl) (fun _ _ _ h => h) (by rfl) (by assumption) ?_ ?_
        rotate_left
        · (intro w' hSw; (try dsimp only at hSw); go_simp; try with_reducible rfl)
        try simp only [Act.put, List.setIfInBounds_toArray, List.set_cons_zero, List.set_cons_succ]
        refine take_yes 8 (some 42) (v := ?_) rfl (by kernel_rfl) (by kernel_rfl) (by kernel_rfl) (by kernel_rfl) (fun _ _ _ h => h) (by rfl) (by assumption) ?_ ?_
        rotate_left
        · (intro w' hSw; (try dsimp only at hSw); go_simp; try with_reducible rfl)
        try simp only [Act.put, List.setIfInBounds_toArray, List.set_cons_zero, List.set_cons_succ]
        refine take_yes 9 (some 43) (v := ?_) rfl (by kernel_rfl) (by kernel_rfl) (by kernel_rfl) (by kernel_rfl) (fun _ _ _ h => h) (by rfl) (by assumption) ?_ ?_
        rotate_left
        · (intro w' hSw; (try dsimp only at hSw); go_simp; try with_reducible rfl)
        try simp only [Act.put, List.setIfInBounds_toArray, List.set_cons_zero, List.set_cons_succ]
        refine take_yes 10 (some 44) (v := ?_) rfl (by kernel_rfl) (by kernel_rfl) (by kernel_rfl) (by kernel_rfl) (fun _ _ _ h => h) (by rfl) (by assumption) ?_ ?_
        rotate_left
        · (intro w' hSw; (try dsimp only at hSw); go_simp; try with_reducible rfl)
        try simp only [Act.put, List.setIfInBounds_toArray, List.set_cons_zero, List.set_cons_succ]
        refine take_yes 11 (some 45) (v := ?_) rfl (by kernel_rfl) (by kernel_rfl) (by kernel_rfl) (by kernel_rfl) (fun _ _ _ h => h) (by rfl) (by assumption) ?_ ?_
        rotate_left
        · (intro w' hSw; (try dsimp only at hSw); go_simp; try with_reducible rfl)
        try simp only [Act.put, List.setIfInBounds_toArray, List.set_cons_zero, List.set_cons_succ]
        refine take_yes 12 (some 46) (v := ?_) rfl (by kernel_rfl) (by kernel_rfl) (by kernel_rfl) (by kernel_rfl) (fun _ _ _ h => h) (by rfl) (by assumption) ?_ ?_
        rotate_left
        · (intro w' hSw; (try dsimp only at hSw); go_simp; try with_reducible rfl)
        try simp only [Act.put, List.setIfInBounds_toArray, List.set_cons_zero, List.set_cons_succ]
        refine take_yes 13 (some 47) (v := ?_) rfl (by kernel_rfl) (by kernel_rfl) (by kernel_rfl) (by kernel_rfl) (fun _ _ _ h => h) (by rfl) (by assumption) ?_ ?_
        rotate_left
        · (intro w' hSw; (try dsimp only at hSw); go_simp; try with_reducible rfl)
        try simp only [Act.put, List.setIfInBounds_toArray, List.set_cons_zero, List.set_cons_succ]
        refine take_yes 14 (some 48) (v := ?_) rfl (by kernel_rfl) (by kernel_rfl) (by kernel_rfl) (by kernel_rfl) (fun _ _ _ h => h) (by rfl) (by assumption) ?_ ?_
        rotate_left
        · (intro w' hSw; (try dsimp only at hSw); go_simp; try with_reducible rfl)
        try simp only [Act.put, List.setIfInBounds_toArray, List.set_cons_zero, List.set_cons_succ]
        refine take_yes 15 (some 49) (v := ?_) rfl (by kernel_rfl) (by kernel_rfl) (by kernel_rfl) (by kernel_rfl) (fun _ _ _ h => h) (by rfl) (by assumption) ?_ ?_
        rotate_left
        · (intro w' hSw; (try dsimp only at hSw); go_simp; try with_reducible rfl)
        try simp only [Act.put, List.setIfInBounds_toArray, List.set_cons_zero, List.set_cons_succ]
        refine take_two 1 16 rfl rfl (by kernel_rfl) (by rfl) (by rfl) (fun K hK => ?_) (fun K hK => ?_)
        · skip
          obtain ⟨q0, q1, q2, q3⟩ := (HB.out.drew).two
          go_simp
          clear q0 q1 q2 q3
          refine hK.out _ _ (HKC.out _ ((Since.refl wr).drew)) (fun hHeld1 => ?_)
          clear hK K hHeld
          try simp only [Act.put, List.setIfInBounds_toArray, List.set_cons_zero, List.set_cons_succ]
          refine take_run 16 rfl (by kernel_rfl) (by rfl) (fun K hK => ?_)
          go_simp
          have hsb : Since wr (wr.alloc (.cells #[.int .i64 x.ss[j].id, .bool (!x.ss[j].inv)] 33)).drew := ((Since.refl wr).alloc (.cells #[.int .i64 x.ss[j].id, .bool (!x.ss[j].inv)] 33)).drew
          refine hK.out _ _ (HKC.out _ (hsb)) (fun hHeld2 => ?_)
          clear hK K hHeld1
          try simp only [Act.put, List.setIfInBounds_toArray, List.set_cons_zero, List.set_cons_succ]
          refine take_run 17 rfl (by kernel_rfl) (by rfl) (fun K hK => ?_)
          refine wp_append_steps (.tmp 35) (.tmp 50) rfl (XB + 1) _ ((backS x.ss).take k) rfl (HOw.out.since hsb) _ _ _ rfl [turnS x.ss[j]] (step_lit wr x.ss[j]) HLN.out (by have := hsb.size; have := HB.out.lt; omega) ?_
          intro v4 w4 ho4 hg4 hb4
          rw [← HTK.out] at ho4
          have hc4 : Since y w4 := (hsw.trans hsb).grown hg4 (fun q hq => by have := (HOw.out.since hsb).lt q hq; have := HXB.out; omega)
          have HB4 : Hid (Blk w4 XB 53 #[.int .i64 e0, v]) := (HB.out.since hsb).grw hg4 (fun e => by have := (HOw.out.since hsb).lt XB e.symm; omega)
          obtain ⟨o4, c4, hv4⟩ := ho4.len
          obtain ⟨n4, hn4⟩ : ∃ n, ((backS x.ss).take (k + 1)).length = n := ⟨_, rfl⟩
          rw [hn4] at hv4
          subst hv4
          clear hn4
          have hS4 := HKW.out _ hc4
          refine hK.out _ _ hS4 (fun hHeld3 => ?_)
          clear hK K hHeld2
          try simp only [Act.put, List.setIfInBounds_toArray, List.set_cons_zero, List.set_cons_succ]
          refine take_yes 18 (some 52) (v := ?_) rfl (by kernel_rfl) (by kernel_rfl) (by kernel_rfl) (by kernel_rfl) (fun _ _ _ h => h) (by rfl) (by assumption) ?_ ?_
          rotate_left
          · (intro w' hSw; (try dsimp only at hSw); go_simp; try with_reducible rfl)
          try simp only [Act.put, List.setIfInBounds_toArray, List.set_cons_zero, List.set_cons_succ]
          refine take_run 19 rfl (by kernel_rfl) (by rfl) (fun K hK => ?_)
          obtain ⟨q0, q1, q2, q3⟩ := HB4.out.two
          go_simp
          clear q0 q1 q2 q3
          have hcz : Since y (w4.setCell ⟨XB, 1, none⟩ (.slice o4 n4 c4)) := hc4.setCell (by have := HXB.out; show y.heap.size ≤ XB; omega) _
          refine hK.out _ _ (HKW.out _ hcz) (fun hHeld4 => ?_)
          clear hK K hHeld3
          try simp only [Act.put, List.setIfInBounds_toArray, List.set_cons_zero, List.set_cons_succ]
          refine wpAnyH_done (by kernel_rfl) ?_ _
          clear hHeld4
          have HB5 : Hid (Blk (w4.setCell ⟨XB, 1, none⟩ (.slice o4 n4 c4)) XB 53 #[.int .i64 e0, .slice o4 n4 c4]) := HB4.out.set 1 (.slice o4 n4 c4)
          have HO5 := Lib.hid (ho4.far (p := ⟨XB, 1, none⟩) (by simp) (.slice o4 n4 c4))
          clear hc4 HB4 hsb hb4 hg4
          go_wp2
          go_roundw
          case rel => exact ⟨k + 1, _, by omega, by have := HJ.out; first | (congr 1; omega) | (simp; omega) | congr 1, HB5.out, HO5.out, hcz⟩
          case measure => (first | (simp [intOf]; done) | (simp [intOf]; omega))
        · skip
          go_simp
          have hsb : Since wr (wr.alloc (.cells #[.int .i64 x.ss[j].id, .bool (!x.ss[j].inv)] 33)).drew := ((Since.refl wr).alloc (.cells #[.int .i64 x.ss[j].id, .bool (!x.ss[j].inv)] 33)).drew
          refine hK.out _ _ (HKC.out _ (hsb)) (fun hHeld1 => ?_)
          clear hK K hHeld
          try simp only [Act.put, List.setIfInBounds_toArray, List.set_cons_zero, List.set_cons_succ]
          refine take_run 1 rfl (by kernel_rfl) (by rfl) (fun K hK => ?_)
          obtain ⟨q0, q1, q2, q3⟩ := (HB.out.since hsb).two
          go_simp
          clear q0 q1 q2 q3
          refine hK.out _ _ (HKC.out _ (hsb)) (fun hHeld2 => ?_)
          clear hK K hHeld1
          try simp only [Act.put, List.setIfInBounds_toArray, List.set_cons_zero, List.set_cons_succ]
          refine take_run 17 rfl (by kernel_rfl) (by rfl) (fun K hK => ?_)
          refine wp_append_steps (.tmp 35) (.tmp 50) rfl (XB + 1) _ ((backS x.ss).take k) rfl (HOw.out.since hsb) _ _ _ rfl [turnS x.ss[j]] (step_lit wr x.ss[j]) HLN.out (by have := hsb.size; have := HB.out.lt; omega) ?_
          intro v4 w4 ho4 hg4 hb4
          rw [← HTK.out] at ho4
          have hc4 : Since y w4 := (hsw.trans hsb).grown hg4 (fun q hq => by have := (HOw.out.since hsb).lt q hq; have := HXB.out; omega)
          have HB4 : Hid (Blk w4 XB 53 #[.int .i64 e0, v]) := (HB.out.since hsb).grw hg4 (fun e => by have := (HOw.out.since hsb).lt XB e.symm; omega)
          obtain ⟨o4, c4, hv4⟩ := ho4.len
          obtain ⟨n4, hn4⟩ : ∃ n, ((backS x.ss).take (k + 1)).length = n := ⟨_, rfl⟩
          rw [hn4] at hv4
          subst hv4
          clear hn4
          have hS4 := HKW.out _ hc4
          refine hK.out _ _ hS4 (fun hHeld3 => ?_)
          clear hK K hHeld2
          try simp only [Act.put, List.setIfInBounds_toArray, List.set_cons_zero, List.set_cons_succ]
          refine take_yes 18 (some 52) (v := ?_) rfl (by kernel_rfl) (by kernel_rfl) (by kernel_rfl) (by kernel_rfl) (fun _ _ _ h => h) (by rfl) (by assumption) ?_ ?_
          rotate_left
          · (intro w' hSw; (try dsimp only at hSw); go_simp; try with_reducible rfl)
          try simp only [Act.put, List.setIfInBounds_toArray, List.set_cons_zero, List.set_cons_succ]
          refine take_run 19 rfl (by kernel_rfl) (by rfl) (fun K hK => ?_)
          obtain ⟨q0, q1, q2, q3⟩ := HB4.out.two
          go_simp
          clear q0 q1 q2 q3
          have hcz : Since y (w4.setCell ⟨XB, 1, none⟩ (.slice o4 n4 c4)) := hc4.setCell (by have := HXB.out; show y.heap.size ≤ XB; omega) _
          refine hK.out _ _ (HKW.out _ hcz) (fun hHeld4 => ?_)
          clear hK K hHeld3
          try simp only [Act.put, List.setIfInBounds_toArray, List.set_cons_zero, List.set_cons_succ]
          refine wpAnyH_done (by kernel_rfl) ?_ _
          clear hHeld4
          have HB5 : Hid (Blk (w4.setCell ⟨XB, 1, none⟩ (.slice o4 n4 c4)) XB 53 #[.int .i64 e0, .slice o4 n4 c4]) := HB4.out.set 1 (.slice o4 n4 c4)
          have HO5 := Lib.hid (ho4.far (p := ⟨XB, 1, none⟩) (by simp) (.slice o4 n4 c4))
          clear hc4 HB4 hsb hb4 hg4
          go_wp2
          go_roundw
          case rel => exact ⟨k + 1, _, by omega, by have := HJ.out; first | (congr 1; omega) | (simp; omega) | congr 1, HB5.out, HO5.out, hcz⟩
          case measure => (first | (simp [intOf]; done) | (simp [intOf]; omega))
      · obtain rfl : k = n := by omega
        have HO : Hid (OwnSt w.heap.size wr (.slice vo ((backS x.ss).take k).length vc) (backS x.ss)) := by
          have := HOw.out
          rw [List.take_of_length_le (by have := HBL.out; omega)] at this ⊢
          exact this.mono (by have := HXB.out; omega)
        have hn1 : (k : Int) - 1 - (k : Int) = -1 := by omega
        rw [hn1]
        obtain ⟨q0, q1, q2, q3⟩ := (BR1.out.since hsw).two
        obtain ⟨x0, x1, _, _⟩ := HB.out.two
        have HOR : Hid (OwnSt (w.heap.size + 1 + 1 + 1) wr (.slice vo ((backS x.ss).take k).length vc) (backS x.ss)) := by
          have := HOw.out
          rw [List.take_of_length_le (by have := HBL.out; omega)] at this ⊢
          exact this.mono (by have := HXB.out; omega)
        generalize ((backS x.ss).take k).length = q at HO HOR x1 q1 ⊢
        clear HB HOw hn1
        go_wp2_with fail
        refine bodyPost_ret (v := .tuple #[.agg #[.int .i64 e0, .slice vo q vc], .bool true]) (by simp [results, Try.results49, go_sem, *]) rfl ?_
        rw [HE0.out]
        refine wbOut_yes HV.out (((HOR.out.far (by simp) _).far (by simp) _).mono (by omega)) ?_
        exact (hs0w.setCell (by simp; omega) _).setCell (by simp; omega) _
end Go.Proofs.Ytilkheclimammaa
