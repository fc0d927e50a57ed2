/- ParseGraph, the model's. -/
import Derived.Test.YtpmkpeclfhmhlaaDoorPgM
namespace Go.Proofs.YtpmkpeclfhmhlaaDoor
set_option maxRecDepth 100000
open Go.ChangeShapes Go.WideShapes Go.ChangeAt Go.RowKit
set_option linter.unusedVariables false
set_option linter.unusedSimpArgs false

theorem Blk.grownP {w w' : World} {g : Nat} {t : TypeId} {cs : Array Value} {row : Option Nat} (h : Blk w g t cs) (k : w.grownBy w' row) (hd : some g ≠ row) : Blk w' g t cs := (k.block g h.lt hd).trans h
theorem Within.cellP (w : World) (p : Addr) (u : Value) : Within p.block (p.block + 1) w (w.setCell p u) := ⟨rfl, rfl, rfl, by simp [World.setCell], fun k _ hn => Below.heap_setCell w p u k (by omega)⟩
theorem cutS_at {s p : ByteArray} {r : List ByteArray} (h : cutB s = p :: r) (w : World) (hs : s.size ≤ 1048576) :
    Calls Tryd.prog 28 #[.string s, .int .u8 32] w fun e w' => ∃ g cap, e = .returned (.slice (some ⟨g, 0, none⟩) (r.length + 1) cap) ∧ Since w w' ∧ Hid (∀ W, Since w' W → W.cell? ⟨g, 0, none⟩ = some (.string p) ∧ ∀ k (hk : k < r.length), W.cell? ⟨g, k + 1, none⟩ = some (.string r[k])) := by
  refine (l2Cut_any s w hs).mono ?_
  rintro e w' ⟨v, rfl, ho, hsi⟩
  rw [h] at ho
  obtain ⟨g, cap, rfl, hc⟩ := strs_since ho (by simp)
  exact ⟨g, cap, rfl, hsi, fun W hW => ⟨hc W hW 0 (by simp), fun k hk => hc W hW (k + 1) (by simp; omega)⟩⟩

set_option maxHeartbeats 4000000 in
set_option maxRecDepth 100000 in
theorem specPG_any (s p : ByteArray) (r : List ByteArray) (hpr : cutB s = p :: r) (w : World) (hs : s.size ≤ 1048576) :
    Calls Tryd.prog 18 #[.string s] w (GBOut w (pgG p r) (pgB p r)) := by
  have hs0 : Since w (w.alloc (.cells #[.slice none 0 0, .slice none 0 0] 40)) := (Since.refl w).alloc _
  have r0 : Hid (Blk (w.alloc (.cells #[.slice none 0 0, .slice none 0 0] 40)) w.heap.size 40 #[.slice none 0 0, .slice none 0 0]) := Blk.new rfl _ _
  have HC := Lib.hid (fun W => cutS_at hpr W hs)
  have hps : p.size ≤ 1048576 := by have := cutB_part_le s p (by rw [hpr]; simp); omega
  have HRS : Hid (∀ k (hk : k < r.length), r[k].size ≤ 1048576) := fun k hk => by have := cutB_part_le s r[k] (by rw [hpr]; exact List.mem_cons_of_mem _ (List.getElem_mem hk)); omega
  have hrl : r.length ≤ 1048576 := by
    have h1 := cutL_length_le s.data.toList
    have h2 := congrArg List.length hpr
    rw [cutB_length, List.length_cons] at h2
    have h3 : s.data.toList.length = s.size := Array.length_toList
    omega
  obtain ⟨a, ha⟩ : ∃ a, a = min p.size 6 := ⟨_, rfl⟩
  obtain ⟨b, hb⟩ : ∃ b, b = min r.length 13 := ⟨_, rfl⟩
  obtain ⟨L, hL⟩ : ∃ L, L = r.length + 1 := ⟨_, rfl⟩
  rw [← hL] at HC
  have HL := Lib.hid hL
  have hL0 : 0 < L := by omega
  have hL1 : (0 : Int) < (L : Int) := by omega
  have HAA := Lib.hid ha
  have HBB := Lib.hid hb
  clear hL ha hb hpr hrl
  go_enter Tryd.func18, Tryd.ntmps18
  go_wp2_with fail
  refine (HC.out _).mono ?_
  rintro en w1 ⟨g, cap, rfl, hs1, HG⟩
  have hs01 := hs0.trans hs1
  have r1 := Lib.hid ((r0.out.since hs1).alloc (.cells #[.slice none 0 0, .slice none 0 0] 40))
  have B1 : Hid (Blk (w1.alloc (.cells #[.slice none 0 0, .slice none 0 0] 40)) w1.heap.size 40 #[.slice none 0 0, .slice none 0 0]) := Blk.new rfl _ _
  have hsy : Since w1 (w1.alloc (.cells #[.slice none 0 0, .slice none 0 0] 40)) := (Since.refl w1).alloc _
  have hsz : (w1.alloc (.cells #[.slice none 0 0, .slice none 0 0] 40)).heap.size = w1.heap.size + 1 := by simp
  have hRG : Hid (w.heap.size < w1.heap.size ∧ w1.heap.size ≤ w1.heap.size) := ⟨(r0.out.since hs1).lt, Nat.le_refl _⟩
  obtain ⟨G, hG⟩ : ∃ G, G = w1.heap.size := ⟨_, rfl⟩
  have hwG : Hid (w.heap.size < G) := by unfold Hid; rw [hG]; exact hRG.out.1
  have hGG : Hid (w1.heap.size ≤ G) := by unfold Hid; omega
  rw [← hG] at B1 hsz
  clear r0 hs0 hRG
  go_wp2_with fail
  rw [← hG]
  clear hG
  generalize (w1.alloc (.cells #[.slice none 0 0, .slice none 0 0] 40)) = y at r1 B1 hsy hsz ⊢
  have hs0y := hs01.trans hsy
  have HKW : Hid (∀ W, Within G (G + 1) y W → Since w1 W) := fun W hW => Since.within hsy hGG.out hW
  have HRW : Hid (∀ W, Within G (G + 1) y W → Blk W w.heap.size 40 #[.slice none 0 0, .slice none 0 0]) := fun W hW => r1.out.within hW (.inl hwG.out)
  have HSW : Hid (∀ W, Within G (G + 1) y W → Since w W) := fun W hW => Since.within hs0y (by have := hwG.out; omega) hW
  have HG0 : Hid (∀ W, Within G (G + 1) y W → W.cell? ⟨g, 0, none⟩ = some (.string p)) := fun W hW => (HG.out W (HKW.out W hW)).1
  have HG1 : Hid (∀ W, Within G (G + 1) y W → ∀ k (hk : k < r.length), W.cell? ⟨g, k + 1, none⟩ = some (.string r[k])) := fun W hW => (HG.out W (HKW.out W hW)).2
  clear HG HKW r1 hsy hs1 hs01 hs0y
  go_loopw [6] (fun i wr => ∃ (k : Nat) (v : Value), k ≤ a ∧ i = .int .i64 k ∧ Hid (Own (G + 1) wr v ((vsOf p).take k)) ∧ Hid (Blk wr G 40 #[v, .slice none 0 0]) ∧ Hid (Within G (G + 1) y wr)) (fun i _ => a - (intOf i).toNat)
  case atStart => exact ⟨0, .slice none 0 0, Nat.zero_le _, rfl, ⟨fun x hx => by simp at hx, World.ownsRow_nil _ _ _ _⟩, B1.out, Within.refl _ _ _⟩
  case round =>
    obtain ⟨k, v, hk, rfl, HO, HB, HW⟩ := hrel
    obtain ⟨cc, hcc⟩ : ∃ cc : Bool, Hid (cc = decide (k < a)) := ⟨_, rfl⟩
    go_upto_region 4 with fail
    go_cut [22] from 13 to 22 (fun c wx => c = .bool cc ∧ wr = wx)
    case first =>
      have hg0 := HG0.out _ HW.out
      have hAA := HAA.out
      by_cases h1 : k < p.size
      · have h1i : (k : Int) < (p.size : Int) := by omega
        by_cases h2 : k ≤ 5
        · have h2i : decide ((k : Int) ≤ 5) = true := decide_eq_true (by omega)
          obtain rfl : cc = true := hcc.out.trans (decide_eq_true (by omega))
          clear hAA
          go_wp2_with fail
          go_meet
          case rel => exact ⟨rfl, rfl⟩
        · have h2i : decide ((k : Int) ≤ 5) = false := decide_eq_false (by omega)
          obtain rfl : cc = false := hcc.out.trans (decide_eq_false (by omega))
          clear hAA
          go_wp2_with fail
          go_meet
          case rel => exact ⟨rfl, rfl⟩
      · have h1i : ¬ (k : Int) < (p.size : Int) := by omega
        obtain rfl : cc = false := hcc.out.trans (decide_eq_false (by omega))
        clear hAA
        go_wp2_with fail
        go_meet
        case rel => exact ⟨rfl, rfl⟩
    case rest =>
      obtain ⟨rfl, rfl⟩ := hcut
      by_cases hlt : k < a
      · obtain rfl : cc = true := hcc.out.trans (decide_eq_true hlt)
        have h1 : k < p.size := by have := HAA.out; omega
        have hk5 : k ≤ 5 := by have := HAA.out; omega
        have b0 := byte_lt p k h1
        have v0 : IntKind.i64.wrap (p[k].toNat : Int) = (p[k].toNat : Int) := by rw [IntKind.wrap_i64]; omega
        have w0 : IntKind.i64.wrap ((p[k].toNat : Int) - 48) = (p[k].toNat : Int) - 48 := by rw [IntKind.wrap_i64]; omega
        have hxin : InI ((p[k].toNat : Int) - 48) := by unfold InI; omega
        have HTK := Lib.hid (vsOf_take k h1)
        obtain ⟨x, hx0⟩ : ∃ x, (p[k].toNat : Int) - 48 = x := ⟨_, rfl⟩
        rw [hx0] at w0 hxin HTK
        have hWd : Within G (G + 1) y wr.drew := HW.out.trans (Within.of_since (Since.refl wr).drew)
        have hbd := HB.out.drew
        have hod := HO.out.since (Since.refl wr).drew
        have HKC : Hid (∀ W, Within G (G + 1) y W → W.cell? ⟨g, 0, none⟩ = some (.string p)) := HG0.out
        clear hcc b0
        go_wp2_with fail
        refine wp_region_held_drew (S := (fun w' => w'.cell? ⟨g, 0, none⟩ = some (.string p))) (by kernel_rfl) (HKC.out _ hWd) (fun hHeld => ?_)
        refine take_yes 0 (some 25) (v := ?_) rfl (by kernel_rfl) (by kernel_rfl) (by kernel_rfl) (by kernel_rfl) (fun _ _ _ h => h) (by rfl) (by assumption) ?_ ?_
        rotate_left
        · (intro w' hSw; (try dsimp only at hSw); go_simp; try with_reducible rfl)
        try simp only [Act.put, List.setIfInBounds_toArray, List.set_cons_zero, List.set_cons_succ]
        refine take_yes 2 (some 27) (v := ?_) rfl (by kernel_rfl) (by kernel_rfl) (by kernel_rfl) (by kernel_rfl) (fun _ _ _ h => h) (by rfl) (by assumption) ?_ ?_
        rotate_left
        · (intro w' hSw; (try dsimp only at hSw); go_simp; try with_reducible rfl)
        try simp only [Act.put, List.setIfInBounds_toArray, List.set_cons_zero, List.set_cons_succ]
        refine take_yes 3 (some 28) (v := ?_) rfl (by kernel_rfl) (by kernel_rfl) (by kernel_rfl) (by kernel_rfl) (fun _ _ _ h => h) (by rfl) (by assumption) ?_ ?_
        rotate_left
        · (intro w' hSw; (try dsimp only at hSw); go_simp; try with_reducible rfl)
        try simp only [Act.put, List.setIfInBounds_toArray, List.set_cons_zero, List.set_cons_succ]
        refine take_yes 4 (some 29) (v := ?_) rfl (by kernel_rfl) (by kernel_rfl) (by kernel_rfl) (by kernel_rfl) (fun _ _ _ h => h) (by rfl) (by assumption) ?_ ?_
        rotate_left
        · (intro w' hSw; (try dsimp only at hSw); go_simp; try with_reducible rfl)
        try simp only [Act.put, List.setIfInBounds_toArray, List.set_cons_zero, List.set_cons_succ]
        refine take_yes 5 (some 30) (v := ?_) rfl (by kernel_rfl) (by kernel_rfl) (by kernel_rfl) (by kernel_rfl) (fun _ _ _ h => h) (by rfl) (by assumption) ?_ ?_
        rotate_left
        · (intro w' hSw; (try dsimp only at hSw); go_simp; try with_reducible rfl)
        try simp only [Act.put, List.setIfInBounds_toArray, List.set_cons_zero, List.set_cons_succ]
        refine take_yes 6 (some 31) (v := ?_) rfl (by kernel_rfl) (by kernel_rfl) (by kernel_rfl) (by kernel_rfl) (fun _ _ _ h => h) (by rfl) (by assumption) ?_ ?_
        rotate_left
        · (intro w' hSw; (try dsimp only at hSw); go_simp; try with_reducible rfl)
        try simp only [Act.put, List.setIfInBounds_toArray, List.set_cons_zero, List.set_cons_succ]
        refine take_yes 7 (some 32) (v := ?_) rfl (by kernel_rfl) (by kernel_rfl) (by kernel_rfl) (by kernel_rfl) (fun _ _ _ h => h) (by rfl) (by assumption) ?_ ?_
        rotate_left
        · (intro w' hSw; (try dsimp only at hSw); go_simp; try with_reducible rfl)
        try simp only [Act.put, List.setIfInBounds_toArray, List.set_cons_zero, List.set_cons_succ]
        refine take_yes 8 (some 33) (v := ?_) rfl (by kernel_rfl) (by kernel_rfl) (by kernel_rfl) (by kernel_rfl) (fun _ _ _ h => h) (by rfl) (by assumption) ?_ ?_
        rotate_left
        · (intro w' hSw; (try dsimp only at hSw); go_simp; try with_reducible rfl)
        try simp only [Act.put, List.setIfInBounds_toArray, List.set_cons_zero, List.set_cons_succ]
        refine take_two 1 9 rfl rfl (by kernel_rfl) (by rfl) (by rfl) (fun K hK => ?_) (fun K hK => ?_)
        · skip
          obtain ⟨q0, q1, q2, q3⟩ := hbd.two
          go_simp
          clear q0 q1 q2 q3
          refine hK.out _ _ (HKC.out _ hWd) (fun hHeldL => ?_)
          clear hK K hHeld
          try simp only [Act.put, List.setIfInBounds_toArray, List.set_cons_zero, List.set_cons_succ]
          refine take_run 9 rfl (by kernel_rfl) (by rfl) (fun K hK => ?_)
          go_simp
          try simp only [v0, hx0, w0]
          have hsb : Since wr (wr.alloc (.cells #[.int .i64 x] 3)).drew := ((Since.refl wr).alloc (.cells #[.int .i64 x] 3)).drew
          have hcb := HW.out.trans (Within.of_since hsb)
          have hbb := HB.out.since hsb
          have hob := HO.out.since hsb
          have hib := (ints_one wr x hxin).since (Since.refl (wr.alloc (.cells #[.int .i64 x] 3))).drew
          refine hK.out _ _ (HKC.out _ hcb) (fun hHeldB => ?_)
          clear hK K hHeldL
          try simp only [Act.put, List.setIfInBounds_toArray, List.set_cons_zero, List.set_cons_succ]
          refine take_run 10 rfl (by kernel_rfl) (by rfl) (fun K hK => ?_)
          refine wp_append_ints (.tmp 26) (.tmp 34) rfl (G + 1) v ((vsOf p).take k) rfl hob _ _ _ rfl [x] hib (by simp; omega) (by have := hcb.size; omega) ?_
          intro v' w4 ho4 hg4 hb4
          rw [← HTK.out] at ho4
          obtain ⟨n4, hn4⟩ : ∃ n, ((vsOf p).take (k + 1)).length = n := ⟨_, rfl⟩
          obtain ⟨o4, c4, hv4⟩ := ho4.len
          rw [hn4] at hv4
          subst hv4
          clear hn4
          have hc4 := within_grown hcb hg4 (fun j hj => by have := hob.2.lt j hj; omega)
          have hbk4 := Blk.grownP hbb hg4 (own_not hob (by omega))
          refine hK.out _ _ (HKC.out _ hc4) (fun hHeldA => ?_)
          clear hK K hHeldB
          try simp only [Act.put, List.setIfInBounds_toArray, List.set_cons_zero, List.set_cons_succ]
          refine take_yes 11 (some 36) (v := ?_) rfl (by kernel_rfl) (by kernel_rfl) (by kernel_rfl) (by kernel_rfl) (fun _ _ _ h => h) (by rfl) (by assumption) ?_ ?_
          rotate_left
          · (intro w' hSw; (try dsimp only at hSw); go_simp; try with_reducible rfl)
          try simp only [Act.put, List.setIfInBounds_toArray, List.set_cons_zero, List.set_cons_succ]
          refine take_run 12 rfl (by kernel_rfl) (by rfl) (fun K hK => ?_)
          obtain ⟨q0, q1, q2, q3⟩ := hbk4.two
          go_simp
          clear q0 q1 q2 q3
          have hbz : Blk (w4.setCell ⟨G, 0, none⟩ (.slice o4 n4 c4)) G 40 #[.slice o4 n4 c4, .slice none 0 0] := hbk4.set 0 (.slice o4 n4 c4)
          have hcz := hc4.trans (Within.cellP w4 ⟨G, 0, none⟩ (.slice o4 n4 c4))
          have hoz := ho4.far (p := ⟨G, 0, none⟩) (by simp) (.slice o4 n4 c4)
          refine hK.out _ _ (HKC.out _ hcz) (fun hHeldZ => ?_)
          clear hK K hHeldA
          try simp only [Act.put, List.setIfInBounds_toArray, List.set_cons_zero, List.set_cons_succ]
          refine wpAnyH_done (by kernel_rfl) ?_ _
          have HB2 := Lib.hid hbz
          have HW2 := Lib.hid hcz
          have HO2 := Lib.hid hoz
          clear hHeldZ hbz hcz hoz hbk4 hc4 ho4 hg4 hb4 hcb hbb hob hib hsb
          go_wp2_with fail
          go_roundw
          case rel => exact ⟨k + 1, .slice o4 n4 c4, by omega, by go_num, HO2.out, HB2.out, HW2.out⟩
          case measure => simp [intOf]; omega
        · skip
          go_simp
          try simp only [v0, hx0, w0]
          have hsb : Since wr (wr.alloc (.cells #[.int .i64 x] 3)).drew := ((Since.refl wr).alloc (.cells #[.int .i64 x] 3)).drew
          have hcb := HW.out.trans (Within.of_since hsb)
          have hbb := HB.out.since hsb
          have hob := HO.out.since hsb
          have hib := (ints_one wr x hxin).since (Since.refl (wr.alloc (.cells #[.int .i64 x] 3))).drew
          refine hK.out _ _ (HKC.out _ hcb) (fun hHeldB => ?_)
          clear hK K hHeld
          try simp only [Act.put, List.setIfInBounds_toArray, List.set_cons_zero, List.set_cons_succ]
          refine take_run 1 rfl (by kernel_rfl) (by rfl) (fun K hK => ?_)
          obtain ⟨q0, q1, q2, q3⟩ := hbb.two
          go_simp
          clear q0 q1 q2 q3
          refine hK.out _ _ (HKC.out _ hcb) (fun hHeldL => ?_)
          clear hK K hHeldB
          try simp only [Act.put, List.setIfInBounds_toArray, List.set_cons_zero, List.set_cons_succ]
          refine take_run 10 rfl (by kernel_rfl) (by rfl) (fun K hK => ?_)
          refine wp_append_ints (.tmp 26) (.tmp 34) rfl (G + 1) v ((vsOf p).take k) rfl hob _ _ _ rfl [x] hib (by simp; omega) (by have := hcb.size; omega) ?_
          intro v' w4 ho4 hg4 hb4
          rw [← HTK.out] at ho4
          obtain ⟨n4, hn4⟩ : ∃ n, ((vsOf p).take (k + 1)).length = n := ⟨_, rfl⟩
          obtain ⟨o4, c4, hv4⟩ := ho4.len
          rw [hn4] at hv4
          subst hv4
          clear hn4
          have hc4 := within_grown hcb hg4 (fun j hj => by have := hob.2.lt j hj; omega)
          have hbk4 := Blk.grownP hbb hg4 (own_not hob (by omega))
          refine hK.out _ _ (HKC.out _ hc4) (fun hHeldA => ?_)
          clear hK K hHeldL
          try simp only [Act.put, List.setIfInBounds_toArray, List.set_cons_zero, List.set_cons_succ]
          refine take_yes 11 (some 36) (v := ?_) rfl (by kernel_rfl) (by kernel_rfl) (by kernel_rfl) (by kernel_rfl) (fun _ _ _ h => h) (by rfl) (by assumption) ?_ ?_
          rotate_left
          · (intro w' hSw; (try dsimp only at hSw); go_simp; try with_reducible rfl)
          try simp only [Act.put, List.setIfInBounds_toArray, List.set_cons_zero, List.set_cons_succ]
          refine take_run 12 rfl (by kernel_rfl) (by rfl) (fun K hK => ?_)
          obtain ⟨q0, q1, q2, q3⟩ := hbk4.two
          go_simp
          clear q0 q1 q2 q3
          have hbz : Blk (w4.setCell ⟨G, 0, none⟩ (.slice o4 n4 c4)) G 40 #[.slice o4 n4 c4, .slice none 0 0] := hbk4.set 0 (.slice o4 n4 c4)
          have hcz := hc4.trans (Within.cellP w4 ⟨G, 0, none⟩ (.slice o4 n4 c4))
          have hoz := ho4.far (p := ⟨G, 0, none⟩) (by simp) (.slice o4 n4 c4)
          refine hK.out _ _ (HKC.out _ hcz) (fun hHeldZ => ?_)
          clear hK K hHeldA
          try simp only [Act.put, List.setIfInBounds_toArray, List.set_cons_zero, List.set_cons_succ]
          refine wpAnyH_done (by kernel_rfl) ?_ _
          have HB2 := Lib.hid hbz
          have HW2 := Lib.hid hcz
          have HO2 := Lib.hid hoz
          clear hHeldZ hbz hcz hoz hbk4 hc4 ho4 hg4 hb4 hcb hbb hob hib hsb
          go_wp2_with fail
          go_roundw
          case rel => exact ⟨k + 1, .slice o4 n4 c4, by omega, by go_num, HO2.out, HB2.out, HW2.out⟩
          case measure => simp [intOf]; omega
      · obtain rfl : cc = false := hcc.out.trans (decide_eq_false hlt)
        obtain rfl : k = a := by omega
        clear hcc hlt hk
        have HV := HO
        go_wp2_with fail
        go_loopw [7] (fun i wr => ∃ (j : Nat) (v2 : Value), 1 ≤ j ∧ j ≤ b + 1 ∧ i = .int .i64 j ∧ Hid (OwnE (G + 1) wr v2 ((esOf r).take (j - 1))) ∧ Hid (Own (G + 1) wr v ((vsOf p).take k)) ∧ Hid (Blk wr G 40 #[v, v2]) ∧ Hid (Within G (G + 1) y wr) ∧ Hid (okE (r.take (j - 1)) = true)) (fun i _ => b + 1 - (intOf i).toNat)
        case atStart => exact ⟨1, .slice none 0 0, Nat.le_refl _, by omega, rfl, ⟨fun x hx => by simp at hx, World.ownsRow_nil _ _ _ _⟩, HO.out, HB.out, HW.out, rfl⟩
        case round =>
          clear HV HO HB HW
          obtain ⟨j, v2, hj1, hj, rfl, HE, HO, HB, HW, HOK⟩ := hrel
          obtain ⟨cc, hcc⟩ : ∃ cc : Bool, Hid (cc = decide (j < b + 1)) := ⟨_, rfl⟩
          go_upto_region 8 with fail
          go_cut [44] from 37 to 44 (fun c wx => c = .bool cc ∧ wr = wx)
          case first =>
            have hBB := HBB.out
            have hLL := HL.out
            by_cases h1 : j < L
            · have h1i : (j : Int) < (L : Int) := by omega
              by_cases h2 : j ≤ 13
              · have h2i : decide ((j : Int) ≤ 13) = true := decide_eq_true (by omega)
                obtain rfl : cc = true := hcc.out.trans (decide_eq_true (by omega))
                clear hBB hLL
                go_wp2_with fail
                go_meet
                case rel => exact ⟨rfl, rfl⟩
              · have h2i : decide ((j : Int) ≤ 13) = false := decide_eq_false (by omega)
                obtain rfl : cc = false := hcc.out.trans (decide_eq_false (by omega))
                clear hBB hLL
                go_wp2_with fail
                go_meet
                case rel => exact ⟨rfl, rfl⟩
            · have h1i : ¬ (j : Int) < (L : Int) := by omega
              obtain rfl : cc = false := hcc.out.trans (decide_eq_false (by omega))
              clear hBB hLL
              go_wp2_with fail
              go_meet
              case rel => exact ⟨rfl, rfl⟩
          case rest =>
            obtain ⟨rfl, rfl⟩ := hcut
            by_cases hlt : j < b + 1
            · obtain rfl : cc = true := hcc.out.trans (decide_eq_true hlt)
              have hjr : j - 1 < r.length := by have := HBB.out; omega
              have hjL : j < L := by have := HL.out; omega
              have hj13 : j ≤ 13 := by have := HBB.out; omega
              have hcell : wr.cell? ⟨g, j, none⟩ = some (.string r[j - 1]) := by
                have := HG1.out wr HW.out (j - 1) hjr
                rwa [show j - 1 + 1 = j from by omega] at this
              have HPE : Hid (∀ W, Calls Tryd.prog 10 #[.string r[j - 1]] W fun en w' => en = .returned (.tuple #[ev (peO r[j - 1]).1, .bool (peO r[j - 1]).2]) ∧ Since W w') := fun W => specPE_any r[j - 1] W (HRS.out _ hjr)
              have HTK := Lib.hid (esOf_take (j - 1) hjr)
              have HIN := Lib.hid (peO_in r[j - 1])
              have HBD : Hid ((peO r[j - 1]).2 = false → pgB p r = false) := fun h => pg_bad _ hjr h
              have HOK2 : Hid ((peO r[j - 1]).2 = true → okE (r.take (j - 1 + 1)) = true) := fun h => okE_take _ hjr HOK.out h
              generalize (peO r[j - 1]).2 = c at HPE HBD HOK2
              generalize (peO r[j - 1]).1 = e at HPE HTK HIN
              unfold ev at HPE
              generalize r[j - 1] = qq at HPE hcell
              clear hcc
              go_wp2_with fail
              refine (HPE.out _).mono ?_
              rintro en w3 ⟨rfl, hs3⟩
              have hE3 := HE.out.since (hs3.alloc (.cells #[.int .i64 e.id, .int .i64 e.fr, .int .i64 e.to, .int .i64 e.lb] 25))
              have hO3 := HO.out.since (hs3.alloc (.cells #[.int .i64 e.id, .int .i64 e.fr, .int .i64 e.to, .int .i64 e.lb] 25))
              have hB3 := HB.out.since (hs3.alloc (.cells #[.int .i64 e.id, .int .i64 e.fr, .int .i64 e.to, .int .i64 e.lb] 25))
              have hW3 := HW.out.trans (Within.of_since (hs3.alloc (.cells #[.int .i64 e.id, .int .i64 e.fr, .int .i64 e.to, .int .i64 e.lb] 25)))
              have hX3 : Blk (w3.alloc (.cells #[.int .i64 e.id, .int .i64 e.fr, .int .i64 e.to, .int .i64 e.lb] 25)) w3.heap.size 25 #[.int .i64 e.id, .int .i64 e.fr, .int .i64 e.to, .int .i64 e.lb] := Blk.new rfl _ _
              have HR3 := Lib.hid (HRW.out _ hW3)
              have HS3 := Lib.hid (HSW.out _ hW3)
              clear hcell HE HO HB HW hs3
              rcases Bool.eq_false_or_eq_true c with rfl | rfl
              · obtain ⟨u, hu⟩ : ∃ u, u = w3.heap.size := ⟨_, rfl⟩
                obtain ⟨d0, d1, d2, d3, f0, f1, f2, f3⟩ := hX3.four
                obtain ⟨q0, q1, q2, q3⟩ := hB3.two
                have hib := edges_one (w3.alloc (.cells #[.int .i64 e.id, .int .i64 e.fr, .int .i64 e.to, .int .i64 e.lb] 25)) e HIN.out (w3.heap.size + 1) (by simp)
                have hE4 := hE3.since ((Since.refl _).alloc (.cells #[.int .i64 e.id, .int .i64 e.fr, .int .i64 e.to, .int .i64 e.lb] 25))
                have hO4 := Lib.hid (hO3.since ((Since.refl _).alloc (.cells #[.int .i64 e.id, .int .i64 e.fr, .int .i64 e.to, .int .i64 e.lb] 25)))
                have hB4 := Lib.hid (hB3.alloc (.cells #[.int .i64 e.id, .int .i64 e.fr, .int .i64 e.to, .int .i64 e.lb] 25))
                have hW4 := Lib.hid (hW3.trans (Within.of_since ((Since.refl _).alloc (.cells #[.int .i64 e.id, .int .i64 e.fr, .int .i64 e.to, .int .i64 e.lb] 25))))
                have hE4h := Lib.hid hE4
                have HOK6 := Lib.hid (HOK2.out rfl)
                have hibh := Lib.hid hib
                clear hX3 hE3 hO3 hB3 hW3 hE4 hib hu u
                go_wp2_with (at_builtin; go_must (refine wpList_append_edges rfl (.tmp 59) (.tmp 61) rfl (G + 1) v2 ((esOf r).take (j - 1)) rfl hE4h.out _ _ _ rfl [e] hibh.out (by simp; omega) (by have := hW4.out.size; omega) ?_); intro v3 w5 ho5 hg5 hb5; rw [← HTK.out] at ho5; obtain ⟨n5, hn5⟩ : ∃ n, ((esOf r).take (j - 1 + 1)).length = n := ⟨_, rfl⟩; obtain ⟨o5, c5, hv5⟩ := ho5.len; rw [hn5] at hv5; subst hv5; clear hn5; have hB5 := Lib.hid (Blk.grownP hB4.out hg5 (ownE_not hE4h.out (by omega))); obtain ⟨z0, z1, z2, z3⟩ := hB5.out.two)
                have hW5 := within_grown hW4.out hg5 (fun i hi => by have := hE4h.out.2.lt i hi; omega)
                have hO5 := hO4.out.grownX hg5 (own_apart hO4.out hE4h.out)
                have HB6 : Hid (Blk (w5.setCell ⟨G, 1, none⟩ (.slice o5 n5 c5)) G 40 #[v, .slice o5 n5 c5]) := hB5.out.set 1 (.slice o5 n5 c5)
                have HW6 := Lib.hid (hW5.trans (Within.cellP w5 ⟨G, 1, none⟩ (.slice o5 n5 c5)))
                have HO6 := Lib.hid (hO5.far (p := ⟨G, 1, none⟩) (by simp) (.slice o5 n5 c5))
                have HE6 := Lib.hid (ho5.far (p := ⟨G, 1, none⟩) (by simp) (.slice o5 n5 c5))
                rw [show j - 1 + 1 = j + 1 - 1 from by omega] at HE6 HOK6
                clear hW5 hO5 ho5 hg5 hb5 z0 z1 z2 z3
                go_roundw
                case rel => exact ⟨j + 1, .slice o5 n5 c5, by omega, by omega, by go_num, HE6.out, HO6.out, HB6.out, HW6.out, HOK6.out⟩
                case measure => simp [intOf]; omega
              · have HBD2 := Lib.hid (HBD.out rfl)
                obtain ⟨a0, a1, a2, a3⟩ := HR3.out.two
                clear hX3 hE3 hO3 hB3 hW3
                go_wp2_with fail
                refine bodyPost_ret (v := .tuple #[.agg #[.slice none 0 0, .slice none 0 0], .bool false]) (by simp [results, Tryd.results18, go_sem, *]) rfl ?_
                refine gbOut_mk HBD2.out (pg_no HBD2.out) ⟨fun x hx => by simp at hx, World.ownsRow_nil _ _ _ _⟩ ⟨fun x hx => by simp at hx, World.ownsRow_nil _ _ _ _⟩ ?_
                iterate 2 (with_reducible refine Since.setCell ?_ (by simp) _)
                exact HS3.out
            · obtain rfl : cc = false := hcc.out.trans (decide_eq_false hlt)
              obtain rfl : j = b + 1 := by omega
              have HVB : Hid (validB ⟨(vsOf p).take k, (esOf r).take b⟩ = pgB p r) := pg_cut p r k b HAA.out HBB.out HOK.out
              have HPG : Hid (pgB p r = true → pgG p r = ⟨(vsOf p).take k, (esOf r).take b⟩) := fun h => pg_same h HAA.out HBB.out
              have HEb : Hid (OwnE (G + 1) wr v2 ((esOf r).take b)) := HE.out
              have hl1 : ((vsOf p).take k).length ≤ 1048577 := by rw [List.length_take]; have := HAA.out; omega
              have hl2 : ((esOf r).take b).length ≤ 1048577 := by rw [List.length_take]; have := HBB.out; omega
              have HVG : Hid (∀ W, Since wr W → Calls Tryd.prog 36 #[.agg #[v, v2]] W fun en w' => en = .returned (.bool (pgB p r)) ∧ Since W w') := fun W hW => by
                have := specVG_any (.agg #[v, v2]) ⟨(vsOf p).take k, (esOf r).take b⟩ W ⟨v, v2, rfl, HO.out.at.since hW, HEb.out.at.since hW⟩ hl1 hl2
                rw [HVB.out] at this; exact this
              obtain ⟨n1, hn1⟩ : ∃ n, ((vsOf p).take k).length = n := ⟨_, rfl⟩
              obtain ⟨n2, hn2⟩ : ∃ n, ((esOf r).take b).length = n := ⟨_, rfl⟩
              obtain ⟨o1, c1, hv1⟩ := HO.out.len
              obtain ⟨o2, c2, hv2⟩ := HEb.out.len
              rw [hn1] at hv1
              rw [hn2] at hv2
              subst hv1 hv2
              clear hn1 hn2
              obtain ⟨q0, q1, q2, q3⟩ := HB.out.two
              clear hcc hlt hj hj1 HE HVB
              go_wp2_with fail
              refine (HVG.out _ (Since.refl _)).mono ?_
              rintro en w6 ⟨rfl, hs6⟩
              clear q0 q1 q2 q3
              obtain ⟨q0, q1, q2, q3⟩ := (HB.out.since hs6).two
              obtain ⟨a0, a1, a2, a3⟩ := ((HRW.out _ HW.out).since hs6).two
              have HS6 := Lib.hid ((HSW.out _ HW.out).trans hs6)
              have HO6 := Lib.hid (HO.out.since hs6)
              have HE6 := Lib.hid (HEb.out.since hs6)
              rcases Bool.eq_false_or_eq_true (pgB p r) with hpb | hpb
              · have HP := Lib.hid hpb
                rw [hpb]
                clear hpb
                go_wp2_with fail
                refine bodyPost_ret (v := .tuple #[.agg #[.slice o1 n1 c1, .slice o2 n2 c2], .bool true]) (by simp [results, Tryd.results18, go_sem, *]) rfl ?_
                have hwg := hwG.out
                refine gbOut_mk HP.out (HPG.out HP.out) (((HO6.out.far (by simp; omega) _).far (by simp; omega) _).mono (by omega)) (((HE6.out.far (by simp; omega) _).far (by simp; omega) _).mono (by omega)) ?_
                iterate 2 (with_reducible refine Since.setCell ?_ (by simp) _)
                exact HS6.out
              · have HP := Lib.hid hpb
                rw [hpb]
                clear hpb
                go_wp2_with fail
                refine bodyPost_ret (v := .tuple #[.agg #[.slice none 0 0, .slice none 0 0], .bool false]) (by simp [results, Tryd.results18, go_sem, *]) rfl ?_
                refine gbOut_mk HP.out (pg_no HP.out) ⟨fun x hx => by simp at hx, World.ownsRow_nil _ _ _ _⟩ ⟨fun x hx => by simp at hx, World.ownsRow_nil _ _ _ _⟩ ?_
                iterate 2 (with_reducible refine Since.setCell ?_ (by simp) _)
                exact HS6.out
end Go.Proofs.YtpmkpeclfhmhlaaDoor
