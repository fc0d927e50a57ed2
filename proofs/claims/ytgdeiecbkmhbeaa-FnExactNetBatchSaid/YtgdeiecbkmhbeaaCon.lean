/- slices.Grow from nothing, slices.Concat of two lists of changes; the program's changesOfMissing. -/
import Derived.Test.YtgdeiecbkmhbeaaChA
import Derived.Test.YtgdeiecbkmhbeaaCtn
import Derived.Test.YtgdeiecbkmhbeaaIns
namespace Go.Proofs.Ytgdeiecbkmhbeaa
set_option maxRecDepth 100000
open Go.ChangeShapes Go.WideShapes Go.ChangeAt Go.RowKit
set_option linter.unusedVariables false
set_option linter.unusedSimpArgs false

set_option maxRecDepth 100000 in
/-- append of m zero values onto nothing. -/
theorem run_append_zerosN (w : World) (t tn e : TypeId) (i : TypeInfo) (z : Value) (kn : IntKind) (ht : Try.prog.underlying t = some (.slice e)) (htn : Try.prog.underlying tn = some (.int kn)) (hi : Try.prog.info? e = some i) (hz : i.zero = some z) (hzc : z.cells.size = i.size)
    (n : Nat) (h0 : 0 < n * i.size) (hn9 : n ≤ 4194304) (hb : i.bytes ≤ 64) :
    ∃ C, n ≤ C ∧ C ≤ maxLen ∧ ∀ ty, (Builtin.append_ #[t, tn] ty #[.slice none 0 0, .int kn n]).run Try.prog w =
      .ok (.slice (some ⟨w.heap.size, 0, none⟩) n C)
        (w.drew.alloc (.cells (Builtin.zeroCells z.cells n ++ Builtin.zeroCells z.cells (C - n)) e)) := by
  refine ⟨grownCap w n 0 e, grownCap_ge w _ _ e, grownCap_le_maxLen w _ _ e (by unfold maxLen; omega), fun ty => ?_⟩
  have hn : ¬ (n = 0) := by intro h; subst h; omega
  have hbn : n * i.bytes ≤ 4194304 * 64 := Nat.mul_le_mul (by omega) hb
  have h63' : ¬ (9223372036854775807 < (n : Int)) := by omega
  have hfit : Builtin.nextslicecap n 0 * i.bytes ≤ 281474976710656 := growslice_fits (by omega) (by have : n * i.bytes ≤ 4194304 * 64 := Nat.mul_le_mul (by omega) hb; omega)
  have h48' : ¬ (281474976710656 < Builtin.nextslicecap n 0 * i.bytes) := by omega
  have hw : IntKind.i64.wrap (n : Int) = (n : Int) := by rw [IntKind.wrap_i64]; omega
  have hl0 : ¬ ((n : Int) < 0) := by omega
  have hlb : ¬ (281474976710656 < (n : Int) * (i.bytes : Int)) := by
    rw [← Int.natCast_mul]
    obtain ⟨q, hq⟩ : ∃ q, q = n * i.bytes := ⟨_, rfl⟩
    rw [← hq] at hbn ⊢
    omega
  have hne : n * i.size ≠ 0 := by omega
  have hai : ∀ w, (asInt (.int kn (n : Int))).run Try.prog w = .ok (n : Int) w := fun w => by simp [asInt, asIntOf]
  simp [Builtin.append_, run_underlying ht, run_underlying htn, sizeOf, typeInfo, zeroValue, hi, hz, hai, hw, hl0, hlb, hn, h63', h48', Question.forced, newRow, grownCap, hne, Builtin.firstCells]
def GrowOut (w : World) (e : Ending) (w' : World) : Prop := ∃ v, e = .returned v ∧ OwnC w.heap.size w' v [] ∧ Since w w'
set_option maxHeartbeats 1000000 in
set_option maxRecDepth 100000 in
theorem grow_any (n : Nat) (w : World) (hn : n ≤ 4194304) :
    Calls Try.prog 109 #[.slice none 0 0, .int .i64 n] w (GrowOut w) := by
  by_cases h0 : n = 0
  · subst h0
    go_enter Try.func109, Try.ntmps109
    go_wp2
    go_ret
    exact ⟨_, rfl, ⟨fun x hx => by simp at hx, World.ownsRow_nil _ _ _ _⟩, Since.refl _⟩
  · obtain ⟨i0, hi, hz0, hz1, hz2⟩ := info_parts info_chg
    obtain ⟨C, hC1, hC2, hR⟩ := run_append_zerosN w 27 3 98 i0 (cv zeroC) .i64 Try.underlying27 Try.underlying3 hi hz0 (by rw [hz1]; rfl) n (by rw [hz1]; omega) hn (by rw [hz2]; decide)
    have hgt : (0 : Int) < (n : Int) := by omega
    have hge : ¬ (n : Int) < 0 := by omega
    have hC0 : (0 : Int) ≤ (C : Int) := by omega
    go_enter Try.func109, Try.ntmps109
    obtain ⟨W, hW⟩ : ∃ W, W = w.drew.alloc (.cells (Builtin.zeroCells (cv zeroC).cells n ++ Builtin.zeroCells (cv zeroC).cells (C - n)) 98) := ⟨_, rfl⟩
    have hsW : Since w W := by rw [hW]; exact (Since.refl w).drew.alloc _
    have HO : Hid (OwnC w.heap.size W (.slice (some ⟨w.heap.size, 0, none⟩) 0 C) []) := by
      refine ⟨fun x hx => by simp at hx, rfl, .inr ⟨w.heap.size, C, Builtin.zeroCells (cv zeroC).cells n ++ Builtin.zeroCells (cv zeroC).cells (C - n), rfl, Nat.le_refl _, ?_, Nat.zero_le _, hC2, ?_, by simp [ccells]⟩⟩
      · rw [hW]; exact heap_alloc_new w.drew _
      · have hcs : (cv zeroC).cells.size = 5 := rfl
        simp [Builtin.zeroCells, hcs]; omega
    rw [← hW] at hR
    clear hW
    go_wp2_with (at_builtin; go_must (refine wpList_of_run_append2 rfl (.tmp 20) (.tmp 21) 27 3 rfl _ _ _ _ rfl rfl (hR _) ?_))
    go_ret
    exact ⟨_, rfl, HO.out, hsW⟩
/-- The changes of both lists, one list after the other. -/
def twoC (xs ys : List Chg) (k : Nat) : List Chg := if k = 0 then [] else if k = 1 then xs else xs ++ ys
def twoN (n m k : Nat) : Nat := if k = 0 then 0 else if k = 1 then n else n + m
set_option maxHeartbeats 2000000 in
set_option maxRecDepth 100000 in
theorem concat_any (sb : Nat) (a b : Value) (xs ys : List Chg) (w : World) (hb : Blk w sb 27 #[a, b]) (hx : ChgsAt w a xs) (hy : ChgsAt w b ys) (h1 : xs.length ≤ 1048577) (h2 : ys.length ≤ 1048577) :
    Calls Try.prog 72 #[.slice (some ⟨sb, 0, none⟩) 2 2] w (COut w (xs ++ ys)) := by
  have HX := Lib.hid hx
  have HY := Lib.hid hy
  have HB := Lib.hid hb
  obtain ⟨ao, ac, rfl⟩ := hx.len
  obtain ⟨bo, bc, rfl⟩ := hy.len
  clear hx hy hb
  obtain ⟨n, hn⟩ : ∃ n, n = xs.length := ⟨_, rfl⟩
  obtain ⟨m, hm⟩ : ∃ m, m = ys.length := ⟨_, rfl⟩
  rw [← hn] at HB HX h1
  rw [← hm] at HB HY h2
  have HN := Lib.hid hn
  have HM := Lib.hid hm
  clear hn hm
  obtain ⟨c0, c1, _, _⟩ := HB.out.two
  go_enter Try.func72, Try.ntmps72
  go_wp2
  go_loop [3, 11] (fun q i => ∃ k : Nat, k ≤ 2 ∧ i = .int .i64 k ∧ q = .int .i64 (twoN n m k)) (fun _ i => 2 - (intOf i).toNat)
  case atStart => exact ⟨0, by omega, rfl, rfl⟩
  case round =>
    obtain ⟨k, hk, rfl, rfl⟩ := hrel
    rcases (by omega : k = 0 ∨ k = 1 ∨ k = 2) with rfl | rfl | rfl
    · have e1 : ((twoN n m 0 : Nat) : Int) = 0 := rfl
      rw [e1]
      go_wp2
      go_round
      case rel => exact ⟨1, by omega, by go_num, by unfold twoN; simp⟩
      case measure => simp [intOf]
    · have e1 : ((twoN n m 1 : Nat) : Int) = (n : Int) := rfl
      rw [e1]
      go_wp2
      go_round
      case rel => exact ⟨2, by omega, by go_num, by unfold twoN; simp⟩
      case measure => simp [intOf]
    · have e1 : ((twoN n m 2 : Nat) : Int) = ((n + m : Nat) : Int) := rfl
      rw [e1]
      clear e1 c0 c1
      go_wp2_with fail
      refine (grow_any (n + m) _ (by omega)).mono ?_
      rintro e w1 ⟨v1, rfl, ho1, hs1⟩
      go_wp2_with fail
      go_loopw [6, 27] (fun v i wr => ∃ k : Nat, k ≤ 2 ∧ i = .int .i64 k ∧ Hid (OwnC w.heap.size wr v (twoC xs ys k)) ∧ Since w wr) (fun _ i _ => 2 - (intOf i).toNat)
      case atStart => exact ⟨0, by omega, rfl, ho1, hs1⟩
      case round =>
        obtain ⟨k, hk, rfl, HO, hsw⟩ := hrel
        obtain ⟨c0, c1, _, _⟩ := (HB.out.since hsw).two
        obtain ⟨vo, vc, rfl⟩ := HO.out.len
        rcases (by omega : k = 0 ∨ k = 1 ∨ k = 2) with rfl | rfl | rfl
        · go_wp2_with (at_builtin; go_must (refine wpList_append_chgs rfl (.tmp 31) (.tmp 32) rfl w.heap.size (.slice vo (twoC xs ys 0).length vc) (twoC xs ys 0) rfl HO.out ao n ac rfl xs (HX.out.since hsw) (by have := HN.out; simp [twoC]; omega) hsw.size ?_); intro v3 w3 ho3 hg3 hb3)
          have hs3 := hsw.grown hg3 (fun j hj => (HO.out.2.lt j hj).1)
          have HO3 : Hid (OwnC w.heap.size w3 v3 (twoC xs ys 1)) := ho3
          clear ho3
          go_roundw
          case rel => exact ⟨1, by omega, by go_num, HO3, hs3⟩
          case measure => simp [intOf]
        · go_wp2_with (at_builtin; go_must (refine wpList_append_chgs rfl (.tmp 31) (.tmp 32) rfl w.heap.size (.slice vo (twoC xs ys 1).length vc) (twoC xs ys 1) rfl HO.out bo m bc rfl ys (HY.out.since hsw) (by have := HN.out; have := HM.out; simp [twoC]; omega) hsw.size ?_); intro v3 w3 ho3 hg3 hb3)
          have hs3 := hsw.grown hg3 (fun j hj => (HO.out.2.lt j hj).1)
          have HO3 : Hid (OwnC w.heap.size w3 v3 (twoC xs ys 2)) := ho3
          clear ho3
          go_roundw
          case rel => exact ⟨2, by omega, by go_num, HO3, hs3⟩
          case measure => simp [intOf]
        · have HO2 : Hid (OwnC w.heap.size wr (.slice vo (twoC xs ys 2).length vc) (xs ++ ys)) := HO.out
          generalize (twoC xs ys 2).length = q at HO2 ⊢
          clear HO
          go_wp2
          go_ret
          exact ⟨_, rfl, HO2.out, hsw⟩
theorem missB_step (es fs : List Edg) (b : Bool) (k : Nat) (hk : k < es.length) : missB (es.take (k + 1)) fs b = missB (es.take k) fs b ++ (if es[k] ∈ fs then [] else [⟨b, es[k]⟩]) := by
  unfold missB
  rw [List.take_succ_eq_append_getElem hk, List.filter_append, List.map_append]
  congr 1
  by_cases h : es[k] ∈ fs
  · simp [h]
  · simp [h]
theorem missB_len (es fs : List Edg) (b : Bool) : (missB es fs b).length ≤ es.length := by
  unfold missB; rw [List.length_map]; exact List.length_filter_le _ _
theorem missB_in {es fs : List Edg} {b : Bool} (h : ∀ x ∈ es, x.In) : ∀ x ∈ missB es fs b, x.ed.In := by
  intro x hx
  unfold missB at hx
  obtain ⟨z, hz, rfl⟩ := List.mem_map.1 hx
  exact h z (List.mem_filter.1 hz).1
end Go.Proofs.Ytgdeiecbkmhbeaa
