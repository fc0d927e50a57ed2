/- TrvE, TrvG, Tof, Dlt, TrvD, StO, StS, StF, Api: small words and contracts that the other texts use. -/
import Derived.Test.YtpmkpeclfhmhlaaK1
import Derived.Test.YtpmkpeclfhmhlaaK0
import Derived.Test.YtpmkpeclfhmhlaaK2
import Derived.Laws.StructEq
import Derived.Deep.RegionLaw
import Derived.Lib.SliceRun
/- The program's traversals of an edge: both its steps. -/
namespace Go.Proofs.Ytpmkpeclfhmhlaa
set_option maxRecDepth 100000
open Go.ChangeShapes Go.WideShapes Go.ChangeAt Go.RowKit
set_option linter.unusedVariables false
set_option linter.unusedSimpArgs false

def fwdT (e : Edg) : Trv := ⟨e.id, false, e.fr, e.to, 2 * e.lb⟩
def invT (e : Edg) : Trv := ⟨e.id, true, e.to, e.fr, 2 * e.lb + 1⟩
def both (e : Edg) : List Trv := [fwdT e, invT e]
def travL (es : List Edg) : List Trv := es.flatMap both
theorem travL_length (es : List Edg) : (travL es).length = es.length * 2 := fcells_len2 (fun _ => rfl) es
theorem invL_move {x : Int} (h0 : 0 ≤ x) (h2 : x ≤ 2) : invL (2 * x) = 2 * x + 1 := by
  have h : x = 0 ∨ x = 1 ∨ x = 2 := by omega
  rcases h with h | h | h <;> subst h <;> decide
theorem Blk.five {w : World} {g : Nat} {t : TypeId} {a b c d e : Value} (h : Blk w g t #[a, b, c, d, e]) : w.cell? ⟨g, 0, none⟩ = some a ∧ w.cell? ⟨g, 1, none⟩ = some b ∧ w.cell? ⟨g, 2, none⟩ = some c ∧ w.cell? ⟨g, 3, none⟩ = some d ∧ w.cell? ⟨g, 4, none⟩ = some e ∧
    w.frozen? ⟨g, 0, none⟩ = false ∧ w.frozen? ⟨g, 1, none⟩ = false ∧ w.frozen? ⟨g, 2, none⟩ = false ∧ w.frozen? ⟨g, 3, none⟩ = false ∧ w.frozen? ⟨g, 4, none⟩ = false :=
  ⟨h.cell 0, h.cell 1, h.cell 2, h.cell 3, h.cell 4, h.frozen 0, h.frozen 1, h.frozen 2, h.frozen 3, h.frozen 4⟩
theorem Blk.ten {w : World} {g : Nat} {t : TypeId} {a b c d e a' b' c' d' e' : Value} (h : Blk w g t #[a, b, c, d, e, a', b', c', d', e']) : w.cell? ⟨g, 0, none⟩ = some a ∧ w.cell? ⟨g, 1, none⟩ = some b ∧ w.cell? ⟨g, 2, none⟩ = some c ∧ w.cell? ⟨g, 3, none⟩ = some d ∧ w.cell? ⟨g, 4, none⟩ = some e ∧
    w.cell? ⟨g, 5, none⟩ = some a' ∧ w.cell? ⟨g, 6, none⟩ = some b' ∧ w.cell? ⟨g, 7, none⟩ = some c' ∧ w.cell? ⟨g, 8, none⟩ = some d' ∧ w.cell? ⟨g, 9, none⟩ = some e' ∧
    w.frozen? ⟨g, 0, none⟩ = false ∧ w.frozen? ⟨g, 1, none⟩ = false ∧ w.frozen? ⟨g, 2, none⟩ = false ∧ w.frozen? ⟨g, 3, none⟩ = false ∧ w.frozen? ⟨g, 4, none⟩ = false ∧
    w.frozen? ⟨g, 5, none⟩ = false ∧ w.frozen? ⟨g, 6, none⟩ = false ∧ w.frozen? ⟨g, 7, none⟩ = false ∧ w.frozen? ⟨g, 8, none⟩ = false ∧ w.frozen? ⟨g, 9, none⟩ = false :=
  ⟨h.cell 0, h.cell 1, h.cell 2, h.cell 3, h.cell 4, h.cell 5, h.cell 6, h.cell 7, h.cell 8, h.cell 9, h.frozen 0, h.frozen 1, h.frozen 2, h.frozen 3, h.frozen 4, h.frozen 5, h.frozen 6, h.frozen 7, h.frozen 8, h.frozen 9⟩

set_option maxHeartbeats 1000000 in
set_option maxRecDepth 100000 in
theorem edgeTrav_any (e : Edg) (w : World) (hl0 : 0 ≤ e.lb) (hl2 : e.lb ≤ 2) :
    Calls Try.prog 94 #[ev e] w fun en w' => en = .returned (.agg #[.int .i64 e.id, .bool false, .int .i64 e.fr, .int .i64 e.to, .int .i64 (2 * e.lb), .int .i64 e.id, .bool true, .int .i64 e.to, .int .i64 e.fr, .int .i64 (2 * e.lb + 1)]) ∧ Since w w' := by
  unfold ev
  have HIL := Lib.hid (invL_move hl0 hl2)
  have hs0 : Since w (((w.alloc (.cells #[.int .i64 e.id, .int .i64 e.fr, .int .i64 e.to, .int .i64 e.lb] 38)).alloc (.cells #[.int .i64 0, .bool false, .int .i64 0, .int .i64 0, .int .i64 0, .int .i64 0, .bool false, .int .i64 0, .int .i64 0, .int .i64 0] 100)).alloc (.cells #[.int .i64 e.id, .bool false, .int .i64 e.fr, .int .i64 e.to, .int .i64 (2 * e.lb)] 79)) := (((Since.refl w).alloc _).alloc _).alloc _
  have b0 : Hid (Blk (((w.alloc (.cells #[.int .i64 e.id, .int .i64 e.fr, .int .i64 e.to, .int .i64 e.lb] 38)).alloc (.cells #[.int .i64 0, .bool false, .int .i64 0, .int .i64 0, .int .i64 0, .int .i64 0, .bool false, .int .i64 0, .int .i64 0, .int .i64 0] 100)).alloc (.cells #[.int .i64 e.id, .bool false, .int .i64 e.fr, .int .i64 e.to, .int .i64 (2 * e.lb)] 79)) w.heap.size 38 #[.int .i64 e.id, .int .i64 e.fr, .int .i64 e.to, .int .i64 e.lb]) := ((Blk.new rfl _ _).alloc _).alloc _
  have r0 : Hid (Blk (((w.alloc (.cells #[.int .i64 e.id, .int .i64 e.fr, .int .i64 e.to, .int .i64 e.lb] 38)).alloc (.cells #[.int .i64 0, .bool false, .int .i64 0, .int .i64 0, .int .i64 0, .int .i64 0, .bool false, .int .i64 0, .int .i64 0, .int .i64 0] 100)).alloc (.cells #[.int .i64 e.id, .bool false, .int .i64 e.fr, .int .i64 e.to, .int .i64 (2 * e.lb)] 79)) (w.heap.size + 1) 100 #[.int .i64 0, .bool false, .int .i64 0, .int .i64 0, .int .i64 0, .int .i64 0, .bool false, .int .i64 0, .int .i64 0, .int .i64 0]) := (Blk.new (by simp) _ _).alloc _
  have t0 : Hid (Blk (((w.alloc (.cells #[.int .i64 e.id, .int .i64 e.fr, .int .i64 e.to, .int .i64 e.lb] 38)).alloc (.cells #[.int .i64 0, .bool false, .int .i64 0, .int .i64 0, .int .i64 0, .int .i64 0, .bool false, .int .i64 0, .int .i64 0, .int .i64 0] 100)).alloc (.cells #[.int .i64 e.id, .bool false, .int .i64 e.fr, .int .i64 e.to, .int .i64 (2 * e.lb)] 79)) (w.heap.size + 1 + 1) 79 #[.int .i64 e.id, .bool false, .int .i64 e.fr, .int .i64 e.to, .int .i64 (2 * e.lb)]) := Blk.new (by simp) _ _
  have hz : Hid (w.heap.size + 3 = (((w.alloc (.cells #[.int .i64 e.id, .int .i64 e.fr, .int .i64 e.to, .int .i64 e.lb] 38)).alloc (.cells #[.int .i64 0, .bool false, .int .i64 0, .int .i64 0, .int .i64 0, .int .i64 0, .bool false, .int .i64 0, .int .i64 0, .int .i64 0] 100)).alloc (.cells #[.int .i64 e.id, .bool false, .int .i64 e.fr, .int .i64 e.to, .int .i64 (2 * e.lb)] 79)).heap.size) := by unfold Hid; simp
  go_enter Try.func94, Try.ntmps94
  go_wp2_with fail
  generalize (((w.alloc (.cells #[.int .i64 e.id, .int .i64 e.fr, .int .i64 e.to, .int .i64 e.lb] 38)).alloc (.cells #[.int .i64 0, .bool false, .int .i64 0, .int .i64 0, .int .i64 0, .int .i64 0, .bool false, .int .i64 0, .int .i64 0, .int .i64 0] 100)).alloc (.cells #[.int .i64 e.id, .bool false, .int .i64 e.fr, .int .i64 e.to, .int .i64 (2 * e.lb)] 79)) = y at hs0 b0 r0 t0 hz ⊢
  have HKC : Hid (∀ w', Since y w' → w'.cell? ⟨w.heap.size, 0, none⟩ = some (.int .i64 e.id) ∧ w'.cell? ⟨w.heap.size, 1, none⟩ = some (.int .i64 e.fr) ∧ w'.cell? ⟨w.heap.size, 2, none⟩ = some (.int .i64 e.to) ∧ w'.cell? ⟨w.heap.size + 1 + 1, 4, none⟩ = some (.int .i64 (2 * e.lb))) := by
    intro w' hs
    obtain ⟨x0, x1, x2, x3, _, _, _, _⟩ := (b0.out.since hs).four
    obtain ⟨_, _, _, _, y4, _, _, _, _, _⟩ := (t0.out.since hs).five
    exact ⟨x0, x1, x2, y4⟩
  refine wp_region_held_drew (S := (fun w' => w'.cell? ⟨w.heap.size, 0, none⟩ = some (.int .i64 e.id) ∧ w'.cell? ⟨w.heap.size, 1, none⟩ = some (.int .i64 e.fr) ∧ w'.cell? ⟨w.heap.size, 2, none⟩ = some (.int .i64 e.to) ∧ w'.cell? ⟨w.heap.size + 1 + 1, 4, none⟩ = some (.int .i64 (2 * e.lb)))) (by kernel_rfl) (HKC.out _ (Since.refl _).drew) (fun hHeld => ?_)
  refine take_yes 0 (some 16) (v := ?_) rfl (by kernel_rfl) (by kernel_rfl) (by kernel_rfl) (by kernel_rfl) (fun _ _ _ h => h) (by rfl) (by assumption) ?_ ?_
  rotate_left
  · (intro w' hSw; (try dsimp only at hSw); go_simp; try with_reducible rfl)
  try simp only [Act.put, List.setIfInBounds_toArray, List.set_cons_zero, List.set_cons_succ]
  refine take_yes 1 (some 17) (v := ?_) rfl (by kernel_rfl) (by kernel_rfl) (by kernel_rfl) (by kernel_rfl) (fun _ _ _ h => h) (by rfl) (by assumption) ?_ ?_
  rotate_left
  · (intro w' hSw; (try dsimp only at hSw); go_simp; try with_reducible rfl)
  try simp only [Act.put, List.setIfInBounds_toArray, List.set_cons_zero, List.set_cons_succ]
  refine take_yes 2 (some 18) (v := ?_) rfl (by kernel_rfl) (by kernel_rfl) (by kernel_rfl) (by kernel_rfl) (fun _ _ _ h => h) (by rfl) (by assumption) ?_ ?_
  rotate_left
  · (intro w' hSw; (try dsimp only at hSw); go_simp; try with_reducible rfl)
  try simp only [Act.put, List.setIfInBounds_toArray, List.set_cons_zero, List.set_cons_succ]
  refine take_yes 3 (some 19) (v := ?_) rfl (by kernel_rfl) (by kernel_rfl) (by kernel_rfl) (by kernel_rfl) (fun _ _ _ h => h) (by rfl) (by assumption) ?_ ?_
  rotate_left
  · (intro w' hSw; (try dsimp only at hSw); go_simp; try with_reducible rfl)
  try simp only [Act.put, List.setIfInBounds_toArray, List.set_cons_zero, List.set_cons_succ]
  refine take_yes 4 (some 20) (v := ?_) rfl (by kernel_rfl) (by kernel_rfl) (by kernel_rfl) (by kernel_rfl) (fun _ _ _ h => h) (by rfl) (by assumption) ?_ ?_
  rotate_left
  · (intro w' hSw; (try dsimp only at hSw); go_simp; try with_reducible rfl)
  try simp only [Act.put, List.setIfInBounds_toArray, List.set_cons_zero, List.set_cons_succ]
  refine take_yes 5 (some 21) (v := ?_) rfl (by kernel_rfl) (by kernel_rfl) (by kernel_rfl) (by kernel_rfl) (fun _ _ _ h => h) (by rfl) (by assumption) ?_ ?_
  rotate_left
  · (intro w' hSw; (try dsimp only at hSw); go_simp; try with_reducible rfl)
  try simp only [Act.put, List.setIfInBounds_toArray, List.set_cons_zero, List.set_cons_succ]
  refine take_yes 6 (some 22) (v := ?_) rfl (by kernel_rfl) (by kernel_rfl) (by kernel_rfl) (by kernel_rfl) (fun _ _ _ h => h) (by rfl) (by assumption) ?_ ?_
  rotate_left
  · (intro w' hSw; (try dsimp only at hSw); go_simp; try with_reducible rfl)
  try simp only [Act.put, List.setIfInBounds_toArray, List.set_cons_zero, List.set_cons_succ]
  refine take_yes 7 (some 23) (v := ?_) rfl (by kernel_rfl) (by kernel_rfl) (by kernel_rfl) (by kernel_rfl) (fun _ _ _ h => h) (by rfl) (by assumption) ?_ ?_
  rotate_left
  · (intro w' hSw; (try dsimp only at hSw); go_simp; try with_reducible rfl)
  try simp only [Act.put, List.setIfInBounds_toArray, List.set_cons_zero, List.set_cons_succ]
  refine take_yes 8 (some 24) (v := ?_) rfl (by kernel_rfl) (by kernel_rfl) (by kernel_rfl) (by kernel_rfl) (fun _ _ _ h => h) (by rfl) (by assumption) ?_ ?_
  rotate_left
  · (intro w' hSw; (try dsimp only at hSw); go_simp; try with_reducible rfl)
  try simp only [Act.put, List.setIfInBounds_toArray, List.set_cons_zero, List.set_cons_succ]
  refine take_two 9 11 rfl rfl (by kernel_rfl) (by rfl) (by rfl) (fun K hK => ?_) (fun K hK => ?_)
  · skip
    go_simp
    refine (implIL_any (2 * e.lb) _).mono ?_
    rintro en q ⟨rfl, rfl⟩
    rw [HIL.out]
    refine hK.out _ _ (HKC.out _ (Since.refl y).drew) (fun hHeldc => ?_)
    clear hK K hHeld
    try simp only [Act.put, List.setIfInBounds_toArray, List.set_cons_zero, List.set_cons_succ]
    refine take_yes 10 (some 26) (v := ?_) rfl (by kernel_rfl) (by kernel_rfl) (by kernel_rfl) (by kernel_rfl) (fun _ _ _ h => h) (by rfl) (by assumption) ?_ ?_
    rotate_left
    · (intro w' hSw; (try dsimp only at hSw); go_simp; try with_reducible rfl)
    try simp only [Act.put, List.setIfInBounds_toArray, List.set_cons_zero, List.set_cons_succ]
    refine take_run 11 rfl (by kernel_rfl) (by rfl) (fun K hK => ?_)
    go_simp
    have hca := Since.alloc (Since.refl y).drew (.cells #[.int .i64 0, .bool false, .int .i64 0, .int .i64 0, .int .i64 0] 79)
    have BA : Hid (Blk (y.drew.alloc (.cells #[.int .i64 0, .bool false, .int .i64 0, .int .i64 0, .int .i64 0] 79)) y.heap.size 79 #[.int .i64 0, .bool false, .int .i64 0, .int .i64 0, .int .i64 0]) := Blk.new rfl _ _
    refine hK.out _ _ (HKC.out _ hca) (fun hHelda => ?_)
    clear hK K hHeldc
    try simp only [Act.put, List.setIfInBounds_toArray, List.set_cons_zero, List.set_cons_succ]
    refine take_run 12 rfl (by kernel_rfl) (by rfl) (fun K hK => ?_)
    have s := BA.out.five
    obtain ⟨s0, s1, s2, s3, s4, s5, s6, s7, s8, s9⟩ := s
    go_simp
    clear s0 s1 s2 s3 s4 s5 s6 s7 s8 s9
    have hcf : Since y ((y.alloc (.cells #[.int .i64 e.id, .bool true, .int .i64 e.to, .int .i64 e.fr, .int .i64 (2 * e.lb + 1)] 79)).drew) := ((Since.refl y).alloc _).drew
    refine hK.out _ _ (HKC.out _ hcf) (fun hHeldz => ?_)
    clear hK K hHelda
    try simp only [Act.put, List.setIfInBounds_toArray, List.set_cons_zero, List.set_cons_succ]
    refine wpAnyH_done (by kernel_rfl) ?_ _
    clear hHeldz
    have BF : Blk ((y.alloc (.cells #[.int .i64 e.id, .bool true, .int .i64 e.to, .int .i64 e.fr, .int .i64 (2 * e.lb + 1)] 79)).drew) y.heap.size 79 #[.int .i64 e.id, .bool true, .int .i64 e.to, .int .i64 e.fr, .int .i64 (2 * e.lb + 1)] := (Blk.new rfl _ _).drew
    obtain ⟨u0, u1, u2, u3, u4, _, _, _, _, _⟩ := (t0.out.since hcf).five
    obtain ⟨v0, v1, v2, v3, v4, _, _, _, _, _⟩ := BF.five
    have HR := Lib.hid (r0.out.since hcf)
    have hsz : Since w _ := hs0.trans hcf
    obtain ⟨d0, d1, d2, d3, d4, d5, d6, d7, d8, d9, e0, e1, e2, e3, e4, e5, e6, e7, e8, e9⟩ := HR.out.ten
    clear BF
    generalize ((y.alloc (.cells #[.int .i64 e.id, .bool true, .int .i64 e.to, .int .i64 e.fr, .int .i64 (2 * e.lb + 1)] 79)).drew) = yf at u0 u1 u2 u3 u4 v0 v1 v2 v3 v4 HR hsz d0 d1 d2 d3 d4 d5 d6 d7 d8 d9 e0 e1 e2 e3 e4 e5 e6 e7 e8 e9 ⊢
    go_wp2_with fail
    refine bodyPost_ret (v := .agg #[.int .i64 e.id, .bool false, .int .i64 e.fr, .int .i64 e.to, .int .i64 (2 * e.lb), .int .i64 e.id, .bool true, .int .i64 e.to, .int .i64 e.fr, .int .i64 (2 * e.lb + 1)]) (by simp [results, Try.results94, go_sem, *]) rfl ⟨rfl, ?_⟩
    iterate 10 (with_reducible refine Since.setCell ?_ (by simp) _)
    exact hsz
  · skip
    go_simp
    have hca := Since.alloc (Since.refl y).drew (.cells #[.int .i64 0, .bool false, .int .i64 0, .int .i64 0, .int .i64 0] 79)
    have BA : Hid (Blk (y.drew.alloc (.cells #[.int .i64 0, .bool false, .int .i64 0, .int .i64 0, .int .i64 0] 79)) y.heap.size 79 #[.int .i64 0, .bool false, .int .i64 0, .int .i64 0, .int .i64 0]) := Blk.new rfl _ _
    refine hK.out _ _ (HKC.out _ hca) (fun hHelda => ?_)
    clear hK K hHeld
    try simp only [Act.put, List.setIfInBounds_toArray, List.set_cons_zero, List.set_cons_succ]
    refine take_run 9 rfl (by kernel_rfl) (by rfl) (fun K hK => ?_)
    go_simp
    refine (implIL_any (2 * e.lb) _).mono ?_
    rintro en q ⟨rfl, rfl⟩
    rw [HIL.out]
    refine hK.out _ _ (HKC.out _ hca) (fun hHeldc => ?_)
    clear hK K hHelda
    try simp only [Act.put, List.setIfInBounds_toArray, List.set_cons_zero, List.set_cons_succ]
    refine take_yes 10 (some 26) (v := ?_) rfl (by kernel_rfl) (by kernel_rfl) (by kernel_rfl) (by kernel_rfl) (fun _ _ _ h => h) (by rfl) (by assumption) ?_ ?_
    rotate_left
    · (intro w' hSw; (try dsimp only at hSw); go_simp; try with_reducible rfl)
    try simp only [Act.put, List.setIfInBounds_toArray, List.set_cons_zero, List.set_cons_succ]
    refine take_run 12 rfl (by kernel_rfl) (by rfl) (fun K hK => ?_)
    have s := BA.out.five
    obtain ⟨s0, s1, s2, s3, s4, s5, s6, s7, s8, s9⟩ := s
    go_simp
    clear s0 s1 s2 s3 s4 s5 s6 s7 s8 s9
    have hcf : Since y ((y.alloc (.cells #[.int .i64 e.id, .bool true, .int .i64 e.to, .int .i64 e.fr, .int .i64 (2 * e.lb + 1)] 79)).drew) := ((Since.refl y).alloc _).drew
    refine hK.out _ _ (HKC.out _ hcf) (fun hHeldz => ?_)
    clear hK K hHeldc
    try simp only [Act.put, List.setIfInBounds_toArray, List.set_cons_zero, List.set_cons_succ]
    refine wpAnyH_done (by kernel_rfl) ?_ _
    clear hHeldz
    have BF : Blk ((y.alloc (.cells #[.int .i64 e.id, .bool true, .int .i64 e.to, .int .i64 e.fr, .int .i64 (2 * e.lb + 1)] 79)).drew) y.heap.size 79 #[.int .i64 e.id, .bool true, .int .i64 e.to, .int .i64 e.fr, .int .i64 (2 * e.lb + 1)] := (Blk.new rfl _ _).drew
    obtain ⟨u0, u1, u2, u3, u4, _, _, _, _, _⟩ := (t0.out.since hcf).five
    obtain ⟨v0, v1, v2, v3, v4, _, _, _, _, _⟩ := BF.five
    have HR := Lib.hid (r0.out.since hcf)
    have hsz : Since w _ := hs0.trans hcf
    obtain ⟨d0, d1, d2, d3, d4, d5, d6, d7, d8, d9, e0, e1, e2, e3, e4, e5, e6, e7, e8, e9⟩ := HR.out.ten
    clear BF
    generalize ((y.alloc (.cells #[.int .i64 e.id, .bool true, .int .i64 e.to, .int .i64 e.fr, .int .i64 (2 * e.lb + 1)] 79)).drew) = yf at u0 u1 u2 u3 u4 v0 v1 v2 v3 v4 HR hsz d0 d1 d2 d3 d4 d5 d6 d7 d8 d9 e0 e1 e2 e3 e4 e5 e6 e7 e8 e9 ⊢
    go_wp2_with fail
    refine bodyPost_ret (v := .agg #[.int .i64 e.id, .bool false, .int .i64 e.fr, .int .i64 e.to, .int .i64 (2 * e.lb), .int .i64 e.id, .bool true, .int .i64 e.to, .int .i64 e.fr, .int .i64 (2 * e.lb + 1)]) (by simp [results, Try.results94, go_sem, *]) rfl ⟨rfl, ?_⟩
    iterate 10 (with_reducible refine Since.setCell ?_ (by simp) _)
    exact hsz
end Go.Proofs.Ytpmkpeclfhmhlaa

/- The program's traversals of a graph. -/
namespace Go.Proofs.Ytpmkpeclfhmhlaa
set_option maxRecDepth 100000
open Go.ChangeShapes Go.WideShapes Go.ChangeAt Go.RowKit
set_option linter.unusedVariables false
set_option linter.unusedSimpArgs false

def travG (g : Grf) : List Trv := if validB g = true then travL g.es else []
theorem travL_take (es : List Edg) (k : Nat) (hk : k < es.length) : travL (es.take (k + 1)) = travL (es.take k) ++ both es[k] := by
  unfold travL; rw [List.take_succ_eq_append_getElem hk, List.flatMap_append, List.flatMap_cons, List.flatMap_nil, List.append_nil]
theorem tcells_both (e : Edg) : tcells (both e) = [.int .i64 e.id, .bool false, .int .i64 e.fr, .int .i64 e.to, .int .i64 (2 * e.lb), .int .i64 e.id, .bool true, .int .i64 e.to, .int .i64 e.fr, .int .i64 (2 * e.lb + 1)] := rfl
/-- append of an array of two, sliced, onto a row of traversals of the call's own. -/
theorem wpList_append_two {w wr : World} {ops : Array Oper} {rest : List Oper} {o : Oper} {a : Act} {Q : Exit → Act → World → Prop} (hgd : o.guard = none) (s x : Operand)
    (ho : o.op = .call { callee := .builtin .append, args := #[s, x], argTypes := #[82, 82] }) (v : Value) (n : Nat) (xs : List Trv) (hn : n = xs.length) (hs : a.eval s = v) (hown : OwnT w.heap.size wr v xs)
    (B c : Nat) (hx : a.eval x = .slice (some ⟨B, 0, none⟩) 2 c) (e : Edg) (hB : Blk wr B 100 #[.int .i64 e.id, .bool false, .int .i64 e.fr, .int .i64 e.to, .int .i64 (2 * e.lb), .int .i64 e.id, .bool true, .int .i64 e.to, .int .i64 e.fr, .int .i64 (2 * e.lb + 1)])
    (hlen : n ≤ 4194304) (hsin : Since w wr)
    (h : ∀ v' w', OwnT w.heap.size w' v' (xs ++ both e) → Since w w' → wpList Try.prog ops Q rest (a.put o.dst v') w') : wpList Try.prog ops Q (o :: rest) a wr := by
  subst hn
  obtain ⟨i0, hi, hz0, hz1, hz2⟩ := info_parts info_trv
  refine wpList_append_own _ hgd s x 82 ho w.heap.size 79 i0 (tv zeroT) 5 40 Try.underlying82 hi hz0 hz1 hz2 rfl (by decide) v xs.length (tcells xs) hs hown ⟨B, 0, none⟩ 2 c (tcells (both e)) hx rfl ?_ (tcells_oneCell _) (by unfold maxLen; omega) (by omega) hsin.size ?_
  · intro j u hj
    rw [add_plain, Nat.zero_add, hB.cell, ← hj, tcells_both, ← Array.getElem?_toList]
  · intro v' w' h1 h2 _
    refine h v' w' ?_ (hsin.grown h2 fun k hk => (hown.lt k hk).1)
    show w'.ownsRow _ _ _ _ (xs ++ both e).length (tcells (xs ++ both e))
    rw [List.length_append, tcells_append]
    exact h1
set_option maxHeartbeats 1000000 in
set_option maxRecDepth 100000 in
theorem trav_any (v : Value) (g : Grf) (w : World) (h : GrfAt w v g) (h1 : g.vs.length ≤ 1048577) (h2 : g.es.length ≤ 1048577) :
    Calls Try.prog 86 #[v] w (TrOut w (travG g)) := by
  have HG := Lib.hid h
  obtain ⟨a, b, rfl, ha, hb⟩ := h
  obtain ⟨ao, ac, rfl, _⟩ := ha.row
  obtain ⟨bo, bc, rfl, HE⟩ := hb.row
  clear ha hb
  obtain ⟨n, hn⟩ : ∃ n, n = g.vs.length := ⟨_, rfl⟩
  obtain ⟨m, hm⟩ : ∃ m, m = g.es.length := ⟨_, rfl⟩
  rw [← hn, ← hm] at HG ⊢
  have hm9 : m ≤ 1048577 := by omega
  have HM := Lib.hid hm
  clear hn hm
  have hs0 : Since w (w.alloc (.cells #[.slice ao n ac, .slice bo m bc] 30)) := (Since.refl w).alloc _
  have B0 : Hid (Blk (w.alloc (.cells #[.slice ao n ac, .slice bo m bc] 30)) w.heap.size 30 #[.slice ao n ac, .slice bo m bc]) := Blk.new rfl _ _
  rcases Bool.eq_false_or_eq_true (validB g) with hv | hv
  · have HV := Lib.hid hv
    have HT : Hid (travG g = travL g.es) := by unfold Hid travG; rw [if_pos hv]
    have HOK : Hid (∀ e ∈ g.es, 0 ≤ e.lb ∧ e.lb ≤ 2) := fun e he => (((validB_iff g).1 hv).2.2.1 e he).2.2.2
    obtain ⟨i0, hi, hz0, hz1, hz2⟩ := info_parts info_trv
    have HZ2 := Lib.hid hz2
    clear hz2 hv
    go_enter Try.func86, Try.ntmps86
    go_wp2_with fail
    refine (implVG_any _ g _ (HG.out.since hs0) h1 h2).mono ?_
    rintro en w1 ⟨rfl, hs1⟩
    rw [HV.out]
    have hs01 := hs0.trans hs1
    have b1 := Lib.hid (B0.out.since hs1)
    obtain ⟨p0, p1, _, _⟩ := b1.out.two
    go_wp2_with (at_make; go_must (refine wpList_make_own _ rfl _ _ 82 rfl w.heap.size 79 i0 (tv zeroT) 5 Try.underlying82 hi hz0 hz1 .i64 .i64 _ (2 * m) rfl rfl (by omega) (by rw [HZ2.out]; omega) (by unfold maxLen; omega) hs01.size ?_); intro w2 hown hgrow; have hs12 : Since w1 w2 := (Since.refl w1).grown hgrow (fun _ h => by simp at h); obtain ⟨p2, p3, _, _⟩ := (b1.out.since hs12).two)
    have hsin : Since w w2 := hs01.trans hs12
    have b2 := Lib.hid (b1.out.since hs12)
    have hown0 : OwnT w.heap.size w2 _ [] := hown
    clear p0 p1 p2 p3 hown hgrow hs12 b1 hs01 B0 hs0
    go_loopw [3, 18] (fun out i wr => ∃ k : Nat, k ≤ m ∧ i = .int .i64 k ∧ Hid (OwnT w.heap.size wr out (travL (g.es.take k))) ∧ Since w wr) (fun _ i _ => m - (intOf i).toNat)
    case atStart => exact ⟨0, Nat.zero_le _, rfl, hown0, hsin⟩
    case round =>
      obtain ⟨k, hk, rfl, hown, hsin⟩ := hrel
      by_cases hlt : k < m
      · have hx : k < g.es.length := by have := HM.out; omega
        obtain ⟨be, oe, rfl, hbe, d0, d1, d2, d3⟩ := HE.out k hx
        have s1 := since_cells hsin hbe
        rw [← s1] at d0 d1 d2 d3
        clear s1
        have HLB := Lib.hid (HOK.out g.es[k] (List.getElem_mem hx))
        have hs2 : Since w (wr.alloc (.cells #[.int .i64 g.es[k].id, .int .i64 g.es[k].fr, .int .i64 g.es[k].to, .int .i64 g.es[k].lb] 38)) := hsin.alloc _
        go_wp2_with fail
        refine (edgeTrav_any g.es[k] _ HLB.out.1 HLB.out.2).mono ?_
        rintro en w3 ⟨rfl, hs3⟩
        have hs4 := hs2.trans hs3
        have hs3' : Since wr w3 := ((Since.refl wr).alloc _).trans hs3
        have BB : Hid (Blk (w3.alloc (.cells #[.int .i64 g.es[k].id, .bool false, .int .i64 g.es[k].fr, .int .i64 g.es[k].to, .int .i64 (2 * g.es[k].lb), .int .i64 g.es[k].id, .bool true, .int .i64 g.es[k].to, .int .i64 g.es[k].fr, .int .i64 (2 * g.es[k].lb + 1)] 100)) w3.heap.size 100 _) := Blk.new rfl _ _
        have HO3 : Hid (OwnT w.heap.size (w3.alloc (.cells #[.int .i64 g.es[k].id, .bool false, .int .i64 g.es[k].fr, .int .i64 g.es[k].to, .int .i64 (2 * g.es[k].lb), .int .i64 g.es[k].id, .bool true, .int .i64 g.es[k].to, .int .i64 g.es[k].fr, .int .i64 (2 * g.es[k].lb + 1)] 100)) u3 (travL (g.es.take k))) := hown.out.since (hs3'.alloc _)
        have HLT : Hid ((travL (g.es.take k)).length = 2 * k) := by unfold Hid; rw [travL_length, List.length_take]; omega
        have HTK := Lib.hid (travL_take g.es k hx)
        have hk9 : 2 * k ≤ 4194304 := by omega
        have hs5 := hs4.alloc (.cells #[.int .i64 g.es[k].id, .bool false, .int .i64 g.es[k].fr, .int .i64 g.es[k].to, .int .i64 (2 * g.es[k].lb), .int .i64 g.es[k].id, .bool true, .int .i64 g.es[k].to, .int .i64 g.es[k].fr, .int .i64 (2 * g.es[k].lb + 1)] 100)
        clear d0 d1 d2 d3 hown hs2 hs3 hs4 hs3' hsin
        go_wp2_with (at_builtin; go_must (refine wpList_append_two rfl (.tmp 24) (.tmp 25) rfl _ (2 * k) _ HLT.out.symm rfl HO3.out w3.heap.size _ rfl g.es[k] BB.out hk9 hs5 ?_); intro v6 w6 ho6 hs6)
        rw [← HTK.out] at ho6
        have HO6 := Lib.hid ho6
        clear ho6
        go_wp2
        go_roundw
        case rel => exact ⟨k + 1, by omega, by go_num, HO6.out, hs6⟩
        case measure => simp [intOf]; omega
      · obtain rfl : k = m := by omega
        have HO : Hid (OwnT w.heap.size wr u3 (travG g)) := by
          have := hown.out
          rw [List.take_of_length_le (by have := HM.out; omega)] at this
          unfold Hid; rw [HT.out]; exact this
        clear hown
        go_wp2
        go_ret
        exact ⟨_, rfl, HO.out, hsin⟩
  · have HV := Lib.hid hv
    have HT : Hid (travG g = []) := by unfold Hid travG; rw [if_neg (by rw [hv]; decide)]
    clear hv
    go_enter Try.func86, Try.ntmps86
    go_wp2_with fail
    refine (implVG_any _ g _ (HG.out.since hs0) h1 h2).mono ?_
    rintro en w1 ⟨rfl, hs1⟩
    rw [HV.out]
    have hs01 := hs0.trans hs1
    go_wp2
    go_ret
    exact ⟨_, rfl, by rw [HT.out]; exact World.ownsRow_nil _ _ _ _, hs01⟩
end Go.Proofs.Ytpmkpeclfhmhlaa

/- The program's traversalOf, StepFrom, StepTo, StepLetter. -/
namespace Go.Proofs.Ytpmkpeclfhmhlaa
set_option maxRecDepth 100000
open Go.ChangeShapes Go.WideShapes Go.ChangeAt Go.RowKit
set_option linter.unusedVariables false
set_option linter.unusedSimpArgs false

theorem guard_step : Try.prog.eqGuardType Try.prog.depth 49 = false := by kernel_rfl
theorem eql_step (a b : Stp) (w : World) : (binOp .eql 49 (sv a) (sv b)).run Try.prog w = .ok (.bool (decide (a = b))) w := by
  have u3 := Try.underlying3
  have a3 := Try.isAgg3
  have z3 := Try.sizeOf3
  have u4 := Try.underlying4
  have a4 := Try.isAgg4
  have z4 := Try.sizeOf4
  have hS : Try.prog.underlying 49 = some (.struct (Try.prog.fieldsOf 49)) := by kernel_rfl
  have hp : Try.prog.stoodInHeld 49 = false := by kernel_rfl
  have hd : decide (a = b) = (a.id == b.id && a.inv == b.inv) := by
    rw [Bool.eq_iff_iff]; simp only [decide_eq_true_eq, Stp.eq_iff, Bool.and_eq_true, beq_iff_eq]
  rw [hd]
  unfold sv
  rw [run_eql_struct, show (10000 : Nat) = 9999 + 1 from rfl, run_equalIn_agg w 9999 49 _ _ hS hp]
  simp only [Program.fieldsOf, Try.underlying49]
  go_simp
  by_cases h1 : a.id = b.id <;> by_cases h2 : a.inv = b.inv <;> simp [h1, h2]

def noTrv : Trv := ⟨0, false, -1, -1, -1⟩
/-- The traversal of this step, or none. -/
def tOf (xs : List Trv) (s : Stp) : Trv := (xs.find? fun t => decide (t.st = s)).getD noTrv
theorem tOf_at {xs : List Trv} {s : Stp} {k : Nat} (hk : k < xs.length) (h : (xs[k]).st = s) (hlt : ∀ j (hj : j < k), (xs[j]'(by omega)).st ≠ s) : tOf xs s = xs[k] := by
  unfold tOf
  rw [List.find?_eq_some_iff_getElem.2 ⟨by simpa using h, k, hk, rfl, fun j hj => by simpa using hlt j hj⟩]; rfl
theorem tOf_none {xs : List Trv} {s : Stp} (h : ∀ j (hj : j < xs.length), (xs[j]).st ≠ s) : tOf xs s = noTrv := by
  unfold tOf
  rw [List.find?_eq_none.2 (fun x hx => by obtain ⟨j, hj, rfl⟩ := List.getElem_of_mem hx; simpa using h j hj)]; rfl
def noTo (xs : List Trv) (s : Stp) (k : Nat) : Prop := ∀ j (_ : j < k) (h : j < xs.length), (xs[j]).st ≠ s
theorem noTo_zero (xs : List Trv) (s : Stp) : noTo xs s 0 := fun j hj => by omega
theorem noTo_step {xs : List Trv} {s : Stp} {k : Nat} (hk : k < xs.length) (h : noTo xs s k) (hx : (xs[k]).st ≠ s) : noTo xs s (k + 1) := by
  intro j hj hl
  by_cases e : j = k
  · subst e; exact hx
  · exact h j (by omega) hl

set_option maxHeartbeats 1000000 in
set_option maxRecDepth 100000 in
theorem tof_any (v : Value) (g : Grf) (s : Stp) (w : World) (h : GrfAt w v g) (h1 : g.vs.length ≤ 1048577) (h2 : g.es.length ≤ 1048577) :
    Calls Try.prog 68 #[v, sv s] w fun en w' => en = .returned (tv (tOf (travG g) s)) ∧ Since w w' := by
  have HG := Lib.hid h
  obtain ⟨a, b, rfl, ha, hb⟩ := h
  obtain ⟨ao, ac, rfl, _⟩ := ha.row
  obtain ⟨bo, bc, rfl⟩ := hb.len
  clear ha hb
  obtain ⟨n, hn⟩ : ∃ n, n = g.vs.length := ⟨_, rfl⟩
  obtain ⟨m, hm⟩ : ∃ m, m = g.es.length := ⟨_, rfl⟩
  rw [← hn, ← hm] at HG ⊢
  have hlen : (travG g).length ≤ 2097154 := by
    unfold travG; split
    · rw [travL_length]; omega
    · simp
  clear hn hm
  have HTR : Hid (∀ W, GrfAt W (.agg #[.slice ao n ac, .slice bo m bc]) g → Calls Try.prog 86 #[.agg #[.slice ao n ac, .slice bo m bc]] W (TrOut W (travG g))) := fun W hu => trav_any _ g W hu h1 h2
  generalize travG g = xs at hlen HTR ⊢
  have hge := guard_step
  unfold sv
  have hs0 : Since w (((w.alloc (.cells #[.slice ao n ac, .slice bo m bc] 30)).alloc (.cells #[.int .i64 s.id, .bool s.inv] 49)).alloc (.cells #[.int .i64 0, .bool false, .int .i64 0, .int .i64 0, .int .i64 0] 79)) := (((Since.refl w).alloc _).alloc _).alloc _
  have S0 : Hid (Blk (((w.alloc (.cells #[.slice ao n ac, .slice bo m bc] 30)).alloc (.cells #[.int .i64 s.id, .bool s.inv] 49)).alloc (.cells #[.int .i64 0, .bool false, .int .i64 0, .int .i64 0, .int .i64 0] 79)) (w.heap.size + 1) 49 #[.int .i64 s.id, .bool s.inv]) := (Blk.new (by simp) _ _).alloc _
  have R0 : Hid (Blk (((w.alloc (.cells #[.slice ao n ac, .slice bo m bc] 30)).alloc (.cells #[.int .i64 s.id, .bool s.inv] 49)).alloc (.cells #[.int .i64 0, .bool false, .int .i64 0, .int .i64 0, .int .i64 0] 79)) (w.heap.size + 1 + 1) 79 #[.int .i64 0, .bool false, .int .i64 0, .int .i64 0, .int .i64 0]) := Blk.new (by simp) _ _
  go_enter Try.func68, Try.ntmps68
  go_wp2_with fail
  refine (HTR.out _ (HG.out.since hs0)).mono ?_
  rintro en w1 ⟨v1, rfl, ho1, hs1⟩
  obtain ⟨xo, xc, rfl, HX⟩ := ho1.at
  have hs01 := hs0.trans hs1
  have s1 := Lib.hid (S0.out.since hs1)
  have r1 := Lib.hid (R0.out.since hs1)
  clear ho1 S0 R0
  obtain ⟨q, hq⟩ : ∃ q, q = xs.length := ⟨_, rfl⟩
  rw [← hq]
  have HQ := Lib.hid hq
  have hq9 : q ≤ 2097154 := by omega
  clear hq hlen
  go_wp2_with fail
  go_loopw [10] (fun i wr => ∃ k : Nat, k ≤ q ∧ i = .int .i64 k ∧ Hid (noTo xs s k) ∧ Since w1 wr) (fun i _ => q - (intOf i).toNat)
  case atStart => exact ⟨0, Nat.zero_le _, rfl, noTo_zero _ _, Since.refl _⟩
  case round =>
    obtain ⟨k, hk, rfl, HT, hsin⟩ := hrel
    have hsw := hs01.trans hsin
    by_cases hlt : k < q
    · have hx : k < xs.length := by have := HQ.out; omega
      obtain ⟨be, oe, rfl, hbe, d0, d1, d2, d3, d4⟩ := HX.out k hx
      have c1 := since_cells hsin hbe
      rw [← c1] at d0 d1 d2 d3 d4
      clear c1
      have hsx : Since wr (wr.alloc (.cells #[.int .i64 xs[k].id, .bool xs[k].inv, .int .i64 xs[k].fr, .int .i64 xs[k].dst, .int .i64 xs[k].le] 79)) := (Since.refl wr).alloc _
      obtain ⟨p0, p1, _, _⟩ := (s1.out.since (hsin.trans hsx)).two
      by_cases he : (xs[k]).st = s
      · have HV := Lib.hid (tOf_at hx he (fun j hj => HT.out j hj (by omega)))
        have hnq : ∀ W : World, (binOp .eql 49 (sv (xs[k]).st) (sv s)).run Try.prog W = .ok (.bool true) W := fun W => by rw [eql_step, decide_eq_true he]
        unfold sv Trv.st at hnq
        clear he
        obtain ⟨f0, f1, f2, f3, f4, f5, f6, f7, f8, f9⟩ := (r1.out.since (hsin.trans hsx)).five
        go_wp2
        refine bodyPost_ret (v := .agg #[.int .i64 xs[k].id, .bool xs[k].inv, .int .i64 xs[k].fr, .int .i64 xs[k].dst, .int .i64 xs[k].le]) (by simp [results, Try.results68, go_sem, *]) rfl ⟨by rw [HV.out], ?_⟩
        iterate 5 (with_reducible refine Since.setCell ?_ (by simp; omega) _)
        exact hsw.alloc _
      · have HN := Lib.hid (noTo_step hx HT.out he)
        have hnq : ∀ W : World, (binOp .eql 49 (sv (xs[k]).st) (sv s)).run Try.prog W = .ok (.bool false) W := fun W => by rw [eql_step, decide_eq_false he]
        unfold sv Trv.st at hnq
        clear he
        go_wp2
        go_roundw
        case rel => exact ⟨k + 1, by omega, by go_num, HN, hsin.alloc _⟩
        case measure => simp [intOf]; omega
    · obtain rfl : k = q := by omega
      have HV : Hid (tOf xs s = noTrv) := tOf_none (fun j hj => HT.out j (by have := HQ.out; omega) hj)
      obtain ⟨f0, f1, f2, f3, f4, f5, f6, f7, f8, f9⟩ := (r1.out.since hsin).five
      go_wp2
      refine bodyPost_ret (v := .agg #[.int .i64 0, .bool false, .int .i64 (-1), .int .i64 (-1), .int .i64 (-1)]) (by simp [results, Try.results68, go_sem, *]) rfl ⟨by rw [HV.out]; rfl, ?_⟩
      iterate 5 (with_reducible refine Since.setCell ?_ (by simp; omega) _)
      exact hsw
theorem implFrom_any (v : Value) (g : Grf) (s : Stp) (w : World) (h : GrfAt w v g) (h1 : g.vs.length ≤ 1048577) (h2 : g.es.length ≤ 1048577) :
    Calls Try.prog 30 #[v, sv s] w fun en w' => en = .returned (.int .i64 (tOf (travG g) s).fr) ∧ Since w w' := by
  have HG := Lib.hid h
  obtain ⟨a, b, rfl, ha, hb⟩ := h
  obtain ⟨ao, ac, rfl, _⟩ := ha.row
  obtain ⟨bo, bc, rfl⟩ := hb.len
  clear ha hb
  have HC : Hid (∀ W, GrfAt W (.agg #[.slice ao g.vs.length ac, .slice bo g.es.length bc]) g → Calls Try.prog 68 #[.agg #[.slice ao g.vs.length ac, .slice bo g.es.length bc], sv s] W fun en w' => en = .returned (tv (tOf (travG g) s)) ∧ Since W w') := fun W hu => tof_any _ g s W hu h1 h2
  generalize tOf (travG g) s = t at HC ⊢
  obtain ⟨ti, tb, tf, td, tl⟩ := t
  dsimp only [tv] at HC ⊢
  unfold sv at HC ⊢
  have hfl : ∀ W, (Instr.field 79 (.agg #[.int .i64 ti, .bool tb, .int .i64 tf, .int .i64 td, .int .i64 tl]) 1).run Try.prog W = .ok (.int .i64 tf) W := fun W => by kernel_rfl
  go_enter Try.func30, Try.ntmps30
  go_wp2_with fail
  refine (HC.out _ (HG.out.since (((Since.refl w).alloc _).alloc _))).mono ?_
  rintro en w1 ⟨rfl, hs1⟩
  go_wp2
  go_ret
  exact ⟨rfl, (((Since.refl w).alloc _).alloc _).trans hs1⟩
theorem implTo_any (v : Value) (g : Grf) (s : Stp) (w : World) (h : GrfAt w v g) (h1 : g.vs.length ≤ 1048577) (h2 : g.es.length ≤ 1048577) :
    Calls Try.prog 32 #[v, sv s] w fun en w' => en = .returned (.int .i64 (tOf (travG g) s).dst) ∧ Since w w' := by
  have HG := Lib.hid h
  obtain ⟨a, b, rfl, ha, hb⟩ := h
  obtain ⟨ao, ac, rfl, _⟩ := ha.row
  obtain ⟨bo, bc, rfl⟩ := hb.len
  clear ha hb
  have HC : Hid (∀ W, GrfAt W (.agg #[.slice ao g.vs.length ac, .slice bo g.es.length bc]) g → Calls Try.prog 68 #[.agg #[.slice ao g.vs.length ac, .slice bo g.es.length bc], sv s] W fun en w' => en = .returned (tv (tOf (travG g) s)) ∧ Since W w') := fun W hu => tof_any _ g s W hu h1 h2
  generalize tOf (travG g) s = t at HC ⊢
  obtain ⟨ti, tb, tf, td, tl⟩ := t
  dsimp only [tv] at HC ⊢
  unfold sv at HC ⊢
  have hfl : ∀ W, (Instr.field 79 (.agg #[.int .i64 ti, .bool tb, .int .i64 tf, .int .i64 td, .int .i64 tl]) 2).run Try.prog W = .ok (.int .i64 td) W := fun W => by kernel_rfl
  go_enter Try.func32, Try.ntmps32
  go_wp2_with fail
  refine (HC.out _ (HG.out.since (((Since.refl w).alloc _).alloc _))).mono ?_
  rintro en w1 ⟨rfl, hs1⟩
  go_wp2
  go_ret
  exact ⟨rfl, (((Since.refl w).alloc _).alloc _).trans hs1⟩
theorem implLtr_any (v : Value) (g : Grf) (s : Stp) (w : World) (h : GrfAt w v g) (h1 : g.vs.length ≤ 1048577) (h2 : g.es.length ≤ 1048577) :
    Calls Try.prog 34 #[v, sv s] w fun en w' => en = .returned (.int .i64 (tOf (travG g) s).le) ∧ Since w w' := by
  have HG := Lib.hid h
  obtain ⟨a, b, rfl, ha, hb⟩ := h
  obtain ⟨ao, ac, rfl, _⟩ := ha.row
  obtain ⟨bo, bc, rfl⟩ := hb.len
  clear ha hb
  have HC : Hid (∀ W, GrfAt W (.agg #[.slice ao g.vs.length ac, .slice bo g.es.length bc]) g → Calls Try.prog 68 #[.agg #[.slice ao g.vs.length ac, .slice bo g.es.length bc], sv s] W fun en w' => en = .returned (tv (tOf (travG g) s)) ∧ Since W w') := fun W hu => tof_any _ g s W hu h1 h2
  generalize tOf (travG g) s = t at HC ⊢
  obtain ⟨ti, tb, tf, td, tl⟩ := t
  dsimp only [tv] at HC ⊢
  unfold sv at HC ⊢
  have hfl : ∀ W, (Instr.field 79 (.agg #[.int .i64 ti, .bool tb, .int .i64 tf, .int .i64 td, .int .i64 tl]) 3).run Try.prog W = .ok (.int .i64 tl) W := fun W => by kernel_rfl
  go_enter Try.func34, Try.ntmps34
  go_wp2_with fail
  refine (HC.out _ (HG.out.since (((Since.refl w).alloc _).alloc _))).mono ?_
  rintro en w1 ⟨rfl, hs1⟩
  go_wp2
  go_ret
  exact ⟨rfl, (((Since.refl w).alloc _).alloc _).trans hs1⟩
end Go.Proofs.Ytpmkpeclfhmhlaa

/- slices.Delete of one edge, in place. -/
namespace Go.Proofs.Ytpmkpeclfhmhlaa
set_option maxRecDepth 100000
open Go.ChangeShapes Go.WideShapes Go.ChangeAt Go.RowKit
set_option linter.unusedVariables false
set_option linter.unusedSimpArgs false

/-- Cells of a block written one after the other. -/
theorem Blk.sets {g : Nat} {t : TypeId} : ∀ (vs : List Value) (o : Nat) (w : World) (cur : Array Value), Blk w g t cur → ∃ cur', Blk (w.setCells g o vs) g t cur' ∧ cur'.size = cur.size ∧
    (∀ j, j < o ∨ o + vs.length ≤ j → cur'[j]? = cur[j]?) ∧ (∀ j, j < vs.length → o + j < cur.size → cur'[o + j]? = vs[j]?)
  | [], o, w, cur, h => ⟨cur, h, rfl, fun _ _ => rfl, fun j hj => by simp at hj⟩
  | v :: r, o, w, cur, h => by
    obtain ⟨cur', h1, h2, h3, h4⟩ := Blk.sets r (o + 1) (w.setCell ⟨g, o, none⟩ v) _ (h.set o v)
    refine ⟨cur', h1, by rw [h2]; simp, fun j hj => ?_, fun j hj hs => ?_⟩
    · rw [List.length_cons] at hj
      rw [h3 j (by omega), Array.getElem?_setIfInBounds_ne (by omega)]
    · cases j with
      | zero =>
        rw [h3 (o + 0) (by omega), Nat.add_zero, Array.getElem?_setIfInBounds_self_of_lt (by omega)]; rfl
      | succ j =>
        rw [List.length_cons] at hj
        rw [show o + (j + 1) = o + 1 + j from by omega, h4 j (by omega) (by simp; omega)]; rfl
theorem grown_sets (g : Nat) : ∀ (vs : List Value) (o : Nat) (w : World), w.grownBy (w.setCells g o vs) (some g)
  | [], _, w => World.grownBy.refl w _
  | v :: r, o, w => by
    have h := grown_sets g r (o + 1) (w.setCell ⟨g, o, none⟩ v)
    have k := Within.cell w ⟨g, o, none⟩ v
    exact ⟨h.os.trans k.os, h.tape.trans k.tape, h.output.trans k.output, Nat.le_trans k.size h.size, fun i hi hn => (h.block i (Nat.lt_of_lt_of_le hi k.size) hn).trans (k.block i hi (by simp only; have : i ≠ g := fun e => hn (by rw [e]); omega))⟩
theorem run_clear_edge (w : World) (ty : TypeId) (b o n c : Nat) (hn : n = 1) (hc : ∀ j, j < 4 → (w.cell? ⟨b, o + j, none⟩).isSome = true) (hf : ∀ j, j < 4 → w.frozen? ⟨b, o + j, none⟩ = false) :
    (Builtin.clear_ #[28] ty #[.slice (some ⟨b, o, none⟩) n c]).run Try.prog w = .ok (.tuple #[]) (w.setCells b o [.int .i64 0, .int .i64 0, .int .i64 0, .int .i64 0]) := by
  subst hn
  have hz : ∀ w, (zeroValue 38).run Try.prog w = .ok (ev zeroE) w := fun w => by
    obtain ⟨i0, hi, h0, _, _⟩ := info_parts info_edge
    simp [zeroValue, typeInfo, hi, h0]
  have hzc : (Builtin.zeroCells (ev zeroE).cells 1).toList = [.int .i64 0, .int .i64 0, .int .i64 0, .int .i64 0] := by kernel_rfl
  have hst := run_storeCells_cells (P := Try.prog) b o [.int .i64 0, .int .i64 0, .int .i64 0, .int .i64 0] 0 w (by simpa using hc) (by simpa using hf) (by intro v hv; simp at hv; subst hv; rfl)
  simp only [Nat.add_zero] at hst
  simp [Builtin.clear_, run_underlying Try.underlying28, hz, hzc, hst]
def DelOut (w : World) (base g cap p : Nat) (ys : List Edg) (e : Ending) (w' : World) : Prop := e = .returned (.slice (some ⟨g, 0, none⟩) p cap) ∧ OwnE base w' (.slice (some ⟨g, 0, none⟩) p cap) ys ∧ w.grownBy w' (some g)
theorem delL_cells (xs : List Edg) (k : Nat) : ecells (delL xs k) = (ecells xs).take (k * 4) ++ (ecells xs).drop ((k + 1) * 4) := by
  unfold delL
  rw [ecells_append, ecells_take, ecells_drop]
theorem delL_length (xs : List Edg) (k p : Nat) (hk : k < xs.length) (hp : p + 1 = xs.length) : (delL xs k).length = p := by unfold delL; simp; omega
theorem delL_in {xs : List Edg} (h : ∀ x ∈ xs, x.In) (k : Nat) : ∀ x ∈ delL xs k, x.In := by
  intro x hx
  unfold delL at hx
  rcases List.mem_append.1 hx with h1 | h1
  · exact h x (List.mem_of_mem_take h1)
  · exact h x (List.mem_of_mem_drop h1)

set_option maxHeartbeats 1000000 in
set_option maxRecDepth 100000 in
theorem slicesDelete_any (xs : List Edg) (base g cap k p n : Nat) (w : World) (hn : n = xs.length) (h : OwnE base w (.slice (some ⟨g, 0, none⟩) n cap) xs) (hk : k < n) (hp : p + 1 = n) (hl : n ≤ 1048577) :
    Calls Try.prog 65 #[.slice (some ⟨g, 0, none⟩) n cap, .int .i64 k, .int .i64 ((k : Int) + 1)] w (DelOut w base g cap p (delL xs k)) := by
  obtain ⟨hin, hlen, hrow⟩ := h
  rcases hrow with ⟨h0, _⟩ | ⟨g', cap', cur, e, hb, hg, hnc, hcm, hcs, hct⟩
  · cases h0
  injection e with e1 e0 e2
  clear e0
  injection e1 with e1; injection e1 with e1
  subst e1; subst e2
  rw [← hn] at hnc hct
  have hblk : Blk w g 38 cur := hg
  obtain ⟨i0, hi0, hz0, hz1, hz2⟩ := info_parts info_edge
  -- the cells that are moved
  obtain ⟨q, hq⟩ : ∃ q, q = n - (k + 1) := ⟨_, rfl⟩
  obtain ⟨news, hnews⟩ : ∃ news, news = (ecells xs).drop ((k + 1) * 4) := ⟨_, rfl⟩
  have hnl : news.length = q * 4 := by rw [hnews, List.length_drop, ecells_length]; omega
  have hcell : ∀ j, j < n * 4 → cur[j]? = (ecells xs)[j]? := by
    intro j hj
    rw [← hct, List.getElem?_take, if_pos hj, Array.getElem?_toList]
  obtain ⟨A, hA, hsrc⟩ : ∃ A : Addr, (if cap = k + 1 then some (⟨g, 0, none⟩ : Addr) else some ⟨g, (k + 1) * 4, none⟩) = some A ∧ Hid (∀ t u, news[t]? = some u → w.drew.cell? (A.add t) = some u) := by
    by_cases hc : cap = k + 1
    · refine ⟨⟨g, 0, none⟩, by simp [hc], fun t u hu => ?_⟩
      have : news.length = 0 := by omega
      rw [List.length_eq_zero_iff.1 this] at hu
      simp at hu
    · refine ⟨⟨g, (k + 1) * 4, none⟩, by simp [hc], fun t u hu => ?_⟩
      have ht : t < news.length := (List.getElem?_eq_some_iff.1 hu).1
      rw [add_plain]
      show w.cell? ⟨g, (k + 1) * 4 + t, none⟩ = some u
      rw [hblk.cell, hcell _ (by omega)]
      rw [hnews, List.getElem?_drop] at hu
      exact hu
  have s1 := Lib.hid hnl
  have s2 : Hid (∀ u ∈ news, u.oneCell' = true) := fun u hu => by rw [hnews] at hu; exact ecells_oneCell xs u (List.mem_of_mem_drop hu)
  have s3 : Hid (∀ t, t < news.length → (w.drew.cell? ⟨g, 0 + k * 4 + t, none⟩).isSome = true ∧ w.drew.frozen? ⟨g, 0 + k * 4 + t, none⟩ = false) := by
    intro t ht
    refine ⟨?_, hblk.frozen _⟩
    show (w.cell? _).isSome = true
    rw [hblk.cell, Array.getElem?_eq_getElem (by omega)]; rfl
  obtain ⟨cur1, hb1, hc1, hc2, hc3⟩ := Blk.sets news (0 + k * 4) w.drew cur hblk.drew
  have hgr1 := grown_sets g news (0 + k * 4) w.drew
  obtain ⟨W1, hW1⟩ : ∃ W1, W1 = w.drew.setCells g (0 + k * 4) news := ⟨_, rfl⟩
  rw [← hW1] at hb1 hgr1
  have hcl : ∀ ty c, (Builtin.clear_ #[28] ty #[.slice (some ⟨g, p * 4, none⟩) 1 c]).run Try.prog W1 = .ok (.tuple #[]) (W1.setCells g (p * 4) [.int .i64 0, .int .i64 0, .int .i64 0, .int .i64 0]) :=
    fun ty c => run_clear_edge W1 ty g (p * 4) 1 c rfl (fun j hj => by rw [hb1.cell, Array.getElem?_eq_getElem (by omega)]; rfl) (fun j _ => hb1.frozen _)
  obtain ⟨cur2, hb2, hd1, hd2, hd3⟩ := Blk.sets [.int .i64 0, .int .i64 0, .int .i64 0, .int .i64 0] (p * 4) W1 cur1 hb1
  have hgr2 := grown_sets g [.int .i64 0, .int .i64 0, .int .i64 0, .int .i64 0] (p * 4) W1
  have HF : Hid (OwnE base (W1.setCells g (p * 4) [.int .i64 0, .int .i64 0, .int .i64 0, .int .i64 0]) (.slice (some ⟨g, 0, none⟩) p cap) (delL xs k) ∧ w.grownBy (W1.setCells g (p * 4) [.int .i64 0, .int .i64 0, .int .i64 0, .int .i64 0]) (some g)) := by
    refine ⟨⟨delL_in hin k, ?_⟩, ⟨hgr2.os.trans hgr1.os, hgr2.tape.trans hgr1.tape, hgr2.output.trans hgr1.output, Nat.le_trans hgr1.size hgr2.size, fun i hi hn => (hgr2.block i (Nat.lt_of_lt_of_le hi hgr1.size) hn).trans (hgr1.block i hi hn)⟩⟩
    rw [delL_length xs k p (by omega) (by omega)]
    refine ⟨by rw [ecells_length, delL_length xs k p (by omega) (by omega)], .inr ⟨g, cap, cur2, rfl, hb, hb2, by omega, hcm, by omega, ?_⟩⟩
    rw [delL_cells]
    apply List.ext_getElem?
    intro j
    rw [List.getElem?_take]
    have hel := ecells_length xs
    by_cases hj : j < p * 4
    · rw [if_pos hj, Array.getElem?_toList, hd2 j (.inl hj)]
      by_cases hjk : j < k * 4
      · rw [hc2 j (.inl (by omega)), hcell j (by omega), List.getElem?_append_left (by rw [List.length_take]; omega), List.getElem?_take, if_pos hjk]
      · have hnq : j - k * 4 < news.length := by omega
        have := hc3 (j - k * 4) hnq (by show 0 + k * 4 + (j - k * 4) < cur.size; omega)
        rw [show 0 + k * 4 + (j - k * 4) = j from by omega] at this
        rw [this, List.getElem?_append_right (by rw [List.length_take]; omega), List.length_take, show min (k * 4) (ecells xs).length = k * 4 from by omega, ← hnews]
    · rw [if_neg hj, List.getElem?_eq_none (by rw [List.length_append, List.length_take, List.length_drop]; omega)]
  have hW : Hid (W1 = w.drew.setCells g (0 + k * 4) news) := hW1
  have hkq : Hid (k + q = p) := by unfold Hid; omega
  have hnq : n - (k + 1) = q := hq.symm
  have hnp : n - p = 1 := by omega
  have hcp : ¬ cap = p := by omega
  have hkc : k ≤ cap := by omega
  have hkc2 : k + 1 ≤ cap := by omega
  have hkn : k + 1 ≤ n := by omega
  have ik0 : (0 : Int) ≤ (k : Int) := by omega
  have ik1 : (k : Int) ≤ (cap : Int) := by omega
  have ik2 : (0 : Int) ≤ (k : Int) + 1 := by omega
  have ik3 : (k : Int) + 1 ≤ (n : Int) := by omega
  have ik4 : (n : Int) ≤ (cap : Int) := by omega
  have ik5 : (k : Int) ≤ (k : Int) + 1 := by omega
  have ip0 : (0 : Int) ≤ (p : Int) := by omega
  have ip1 : (p : Int) ≤ (n : Int) := by omega
  have hpc : p ≤ cap := by omega
  have hpn : p ≤ n := by omega
  have hqc : k + q ≤ cap := by omega
  have hne : ((k : Int) == (k : Int) + 1) = false := by simp; omega
  have hQ := Lib.hid hq
  have hHP := Lib.hid hp
  clear hq hW1 hb1 hgr1 hc1 hc2 hc3 hb2 hd1 hd2 hd3 hgr2 hcell hnews hnl hblk hg hcs hct hlen hin hn hp hcm hk hb
  go_enter Try.func65, Try.ntmps65
  go_wp2_with fail
  go_region_law (refine step_append_room rfl (.tmp 22) (.tmp 25) 28 rfl 38 i0 4 Try.underlying28 hi0 hz1 g 0 k cap (by simp [Act.eval, Act.put]) A q (cap - (k + 1)) news (by simp [Act.eval, Act.put]) s1.out hsrc.out s2.out hqc s3.out ?_; rw [← hW.out]; rw [hkq.out])
  go_wp2
  go_ret
  exact ⟨rfl, HF.out⟩
end Go.Proofs.Ytpmkpeclfhmhlaa

/- slices.DeleteFunc over the steps of a graph: what its two closures keep. -/
namespace Go.Proofs.Ytpmkpeclfhmhlaa
set_option maxRecDepth 100000
open Go.ChangeShapes Go.WideShapes Go.ChangeAt Go.RowKit
set_option linter.unusedVariables false
set_option linter.unusedSimpArgs false

/-- All of the first k are kept. -/
def allTo (p : Trv → Bool) (xs : List Trv) (k : Nat) : Prop := ∀ j (_ : j < k) (h : j < xs.length), p xs[j] = true
theorem allTo_zero (p : Trv → Bool) (xs : List Trv) : allTo p xs 0 := fun j hj => by omega
theorem allTo_step {p : Trv → Bool} {xs : List Trv} {k : Nat} (hk : k < xs.length) (h : allTo p xs k) (hx : p xs[k] = true) : allTo p xs (k + 1) := by
  intro j hj hl
  by_cases e : j = k
  · subst e; exact hx
  · exact h j (by omega) hl
/-- The place of the first that is not kept, or -1. -/
def idxP (p : Trv → Bool) (xs : List Trv) : Int := match xs.findIdx? (fun t => !p t) with | some k => (k : Int) | none => -1
theorem idxP_at {p : Trv → Bool} {xs : List Trv} {k : Nat} (hk : k < xs.length) (h : allTo p xs k) (hx : p xs[k] = false) : idxP p xs = k := by
  unfold idxP
  rw [List.findIdx?_eq_some_iff_getElem.2 ⟨hk, by simpa using hx, fun j hj => by simpa using h j hj (by omega)⟩]
theorem idxP_none {p : Trv → Bool} {xs : List Trv} (h : allTo p xs xs.length) : idxP p xs = -1 := by
  unfold idxP
  rw [List.findIdx?_eq_none_iff.2 (fun x hx => by obtain ⟨j, hj, rfl⟩ := List.getElem_of_mem hx; simpa using h j hj hj)]
theorem idxP_cases (p : Trv → Bool) (xs : List Trv) : (idxP p xs = -1 ∧ ∀ x ∈ xs, p x = true) ∨ ∃ k : Nat, ∃ hk : k < xs.length, idxP p xs = k ∧ allTo p xs k ∧ p xs[k] = false := by
  cases e : xs.findIdx? (fun t => !p t) with
  | none =>
    refine .inl ⟨by unfold idxP; rw [e], fun x hx => ?_⟩
    have := List.findIdx?_eq_none_iff.1 e x hx
    simpa using this
  | some k =>
    obtain ⟨hk, h1, h2⟩ := List.findIdx?_eq_some_iff_getElem.1 e
    exact .inr ⟨k, hk, by unfold idxP; rw [e], fun j hj hl => by simpa using h2 j hj, by simpa using h1⟩
/-- The row ys while DeleteFunc goes over xs: the first i are what is kept of the first j; from j on it is as it was. -/
def delAt (p : Trv → Bool) (xs : List Trv) (i j : Nat) (ys : List Trv) : Prop := ys.length = xs.length ∧ ys.take i = (xs.take j).filter p ∧ ys.drop j = xs.drop j
theorem delAt_zero {p : Trv → Bool} {xs : List Trv} {k : Nat} (hk : k < xs.length) (h : allTo p xs k) (hx : p xs[k] = false) : delAt p xs k (k + 1) xs := by
  refine ⟨rfl, ?_, rfl⟩
  rw [List.take_succ_eq_append_getElem hk, List.filter_append, List.filter_cons_of_neg (by simpa using hx), List.filter_nil, List.append_nil]
  refine (List.filter_eq_self.2 fun x hx => ?_).symm
  obtain ⟨j, hj, rfl⟩ := List.getElem_of_mem hx
  rw [List.length_take] at hj
  rw [List.getElem_take]
  exact h j (by omega) (by omega)
theorem delAt_get {p : Trv → Bool} {xs ys : List Trv} {i j : Nat} (h : delAt p xs i j ys) (hj : j < ys.length) (hjx : j < xs.length) : ys[j] = xs[j] := by
  have := h.2.2
  rw [List.drop_eq_getElem_cons hj, List.drop_eq_getElem_cons hjx] at this
  injection this
theorem delAt_keep {p : Trv → Bool} {xs ys : List Trv} {i j : Nat} (h : delAt p xs i j ys) (hij : i < j) (hjx : j < xs.length) (hp : p xs[j] = true) : delAt p xs (i + 1) (j + 1) (ys.set i xs[j]) := by
  obtain ⟨h1, h2, h3⟩ := h
  refine ⟨by simp [h1], ?_, ?_⟩
  · rw [List.take_succ_eq_append_getElem hjx, List.filter_append, List.filter_cons_of_pos hp, List.filter_nil, ← h2]
    rw [List.take_succ_eq_append_getElem (by simp; omega), List.getElem_set_self, List.take_set_of_le (Nat.le_refl _)]
  · rw [List.drop_set_of_lt (by omega)]
    have := congrArg (List.drop 1) h3
    rw [List.drop_drop, List.drop_drop] at this
    exact this
theorem delAt_drop {p : Trv → Bool} {xs ys : List Trv} {i j : Nat} (h : delAt p xs i j ys) (hij : i < j) (hjx : j < xs.length) (hp : p xs[j] = false) : delAt p xs i (j + 1) ys := by
  obtain ⟨h1, h2, h3⟩ := h
  refine ⟨h1, ?_, ?_⟩
  · rw [List.take_succ_eq_append_getElem hjx, List.filter_append, List.filter_cons_of_neg (by simpa using hp), List.filter_nil, List.append_nil, ← h2]
  · have := congrArg (List.drop 1) h3
    rw [List.drop_drop, List.drop_drop] at this
    exact this
theorem delAt_end {p : Trv → Bool} {xs ys : List Trv} {i j : Nat} (h : delAt p xs i j ys) (hj : j = xs.length) : ys.take i = xs.filter p := by
  rw [h.2.1, List.take_of_length_le (by omega)]
theorem row_set5 {w : World} {base g n cap : Nat} {xs : List Trv} (h : w.ownsRow base 79 5 (.slice (some ⟨g, 0, none⟩) n cap) n (tcells xs)) (k : Nat) (hk : k < xs.length) (e : Trv) :
    (((((w.setCell ⟨g, k * 5, none⟩ (.int .i64 e.id)).setCell ⟨g, k * 5 + 1, none⟩ (.bool e.inv)).setCell ⟨g, k * 5 + 2, none⟩ (.int .i64 e.fr)).setCell ⟨g, k * 5 + 3, none⟩ (.int .i64 e.dst)).setCell ⟨g, k * 5 + 4, none⟩ (.int .i64 e.le)).ownsRow base 79 5 (.slice (some ⟨g, 0, none⟩) n cap) n (tcells (xs.set k e)) := by
  rw [← tcells_set xs k hk e]
  exact (((((h.stored _ _).1.stored _ _).1.stored _ _).1.stored _ _).1.stored _ _).1
theorem OwnT.row {base n : Nat} {w : World} {v : Value} {xs : List Trv} (h : OwnT base w v xs) (hn : n = xs.length) : w.ownsRow base 79 5 v n (tcells xs) := by subst hn; exact h
theorem OwnT.ofRow {base n : Nat} {w : World} {v : Value} {xs : List Trv} (h : w.ownsRow base 79 5 v n (tcells xs)) (hn : n = xs.length) : OwnT base w v xs := by subst hn; exact h
theorem zeros_length (n : Nat) : (Builtin.zeroCells (tv zeroT).cells n).toList.length = n * 5 := by
  simp [Builtin.zeroCells, Value.cells]
theorem zeros_one (n : Nat) : ∀ u ∈ (Builtin.zeroCells (tv zeroT).cells n).toList, u.oneCell' = true := by
  intro u hu
  have e : (tv zeroT).cells = #[.int .i64 0, .bool false, .int .i64 0, .int .i64 0, .int .i64 0] := rfl
  rw [e] at hu
  simp [Builtin.zeroCells] at hu
  obtain ⟨i, _, rfl⟩ := hu
  have hi : i % 5 = 0 ∨ i % 5 = 1 ∨ i % 5 = 2 ∨ i % 5 = 3 ∨ i % 5 = 4 := by omega
  rcases hi with h | h | h | h | h <;> rw [h] <;> rfl
theorem run_clear_trv (base : Nat) (w : World) (ty : TypeId) (g cap n i c : Nat) (ys : List Trv) (h : OwnT base w (.slice (some ⟨g, 0, none⟩) n cap) ys) (hn : n = ys.length) (hi : i < n) :
    (Builtin.clear_ #[82] ty #[.slice (some ⟨g, i * 5, none⟩) (n - i) c]).run Try.prog w = .ok (.tuple #[]) (w.setCells g (i * 5) (Builtin.zeroCells (tv zeroT).cells (n - i)).toList) := by
  have hz : ∀ w, (zeroValue 79).run Try.prog w = .ok (tv zeroT) w := fun w => by
    obtain ⟨i0, hi, h0, _, _⟩ := info_parts info_trv
    simp [zeroValue, typeInfo, hi, h0]
  have hl := tcells_length ys
  have h' : w.ownsRow base 79 5 (.slice (some ⟨g, 0, none⟩) n cap) n (tcells ys) := by unfold OwnT at h; rw [← hn] at h; exact h
  have hzl := zeros_length (n - i)
  have hst := run_storeCells_cells (P := Try.prog) g (i * 5) (Builtin.zeroCells (tv zeroT).cells (n - i)).toList 0 w (by
    intro j hj
    have hj5 : j < (n - i) * 5 := by rw [← hzl]; simpa using hj
    rw [Nat.add_zero]
    rw [h'.cellAt (i * 5 + j) (by omega), List.getElem?_eq_getElem (by omega)]; rfl) (by intro j hj; rw [Nat.add_zero]; exact h'.frozenAt _) (zeros_one _)
  simp only [Nat.add_zero] at hst
  obtain ⟨m, hm⟩ : ∃ m, n - i = m + 1 := ⟨n - i - 1, by omega⟩
  rw [hm] at hst ⊢
  simp [Builtin.clear_, run_underlying Try.underlying82, hz, hst]
theorem own_cut (base : Nat) (w : World) (g cap n i : Nat) (ys : List Trv) (h : OwnT base w (.slice (some ⟨g, 0, none⟩) n cap) ys) (hn : n = ys.length) (hi : i < n) :
    (w.setCells g (i * 5) (Builtin.zeroCells (tv zeroT).cells (n - i)).toList).ownsRow base 79 5 (.slice (some ⟨g, 0, none⟩) i cap) i (tcells (ys.take i)) ∧ w.grownBy (w.setCells g (i * 5) (Builtin.zeroCells (tv zeroT).cells (n - i)).toList) (some g) := by
  refine ⟨?_, grown_sets g _ _ _⟩
  obtain ⟨_, hrow⟩ := h
  rcases hrow with ⟨h0, _⟩ | ⟨g', cap', cur, e, hb, hg, hnc, hcm, hcs, hct⟩
  · cases h0
  injection e with e1 e0 e2
  injection e1 with e1; injection e1 with e1
  subst e1; subst e2
  rw [← hn] at hnc hct
  obtain ⟨cur1, hb1, hc1, hc2, _⟩ := Blk.sets (Builtin.zeroCells (tv zeroT).cells (n - i)).toList (i * 5) w cur hg
  have hl : (tcells (ys.take i)).length = i * 5 := by rw [tcells_length, List.length_take]; omega
  refine ⟨hl, .inr ⟨g, cap, cur1, rfl, hb, hb1, by omega, hcm, by omega, ?_⟩⟩
  have ht : tcells (ys.take i) = (tcells ys).take (i * 5) := (fcells_take tcs_len ys i).symm
  rw [ht, ← hct, List.take_take, Nat.min_eq_left (by omega)]
  apply List.ext_getElem?
  intro j
  rw [List.getElem?_take, List.getElem?_take]
  by_cases hj : j < i * 5
  · rw [if_pos hj, if_pos hj, Array.getElem?_toList, Array.getElem?_toList, hc2 j (.inl hj)]
  · rw [if_neg hj, if_neg hj]
theorem travG_len (g : Grf) (h2 : g.es.length ≤ 1048577) : (travG g).length ≤ 2097154 := by
  unfold travG; split
  · rw [travL_length]; omega
  · simp

/-- What traversalsFrom keeps. -/
def kpF (x : Int) (t : Trv) : Bool := t.fr == x
theorem closF_any (t : Trv) (x : Int) (B : Nat) (w : World) (h : Blk w B 3 #[.int .i64 x]) :
    Calls Try.prog 88 #[.agg #[.int .i64 t.id, .bool t.inv, .int .i64 t.fr, .int .i64 t.dst, .int .i64 t.le], .pointer (some ⟨B, 0, none⟩)] w fun en w' => en = .returned (.bool (!kpF x t)) ∧ Since w w' := by
  have hs0 : Since w (w.alloc (.cells #[.int .i64 t.id, .bool t.inv, .int .i64 t.fr, .int .i64 t.dst, .int .i64 t.le] 79)) := (Since.refl w).alloc _
  obtain ⟨q0, _⟩ := (h.alloc (.cells #[.int .i64 t.id, .bool t.inv, .int .i64 t.fr, .int .i64 t.dst, .int .i64 t.le] 79)).one
  have HK : Hid ((t.fr != x) = !kpF x t) := rfl
  clear h
  go_enter Try.func88, Try.ntmps88
  go_wp2
  go_ret
  exact ⟨ret_bool HK.out, hs0⟩
set_option maxRecDepth 100000 in
theorem indexF_any (v : Value) (xs : List Trv) (x : Int) (B : Nat) (w : World) (h : TrvsAt w v xs) (hB : Blk w B 3 #[.int .i64 x]) (h2 : xs.length ≤ 2097154) :
    Calls Try.prog 95 #[v, .func (.func 88) #[] #[.pointer (some ⟨B, 0, none⟩)]] w fun e w' => e = .returned (.int .i64 (idxP (kpF x) xs)) ∧ Since w w' := by
  obtain ⟨bo, bc, rfl, HE⟩ := h
  obtain ⟨m, hm⟩ : ∃ m, m = xs.length := ⟨_, rfl⟩
  rw [← hm]
  have hm9 : m ≤ 2097154 := by omega
  have HM := Lib.hid hm
  have HB := Lib.hid hB
  clear hm h2 hB
  go_enter Try.func95, Try.ntmps95
  go_wp2
  go_loopw [8] (fun i wr => ∃ k : Nat, k ≤ m ∧ i = .int .i64 k ∧ Hid (allTo (kpF x) xs k) ∧ Since w wr) (fun i _ => m - (intOf i).toNat)
  case atStart => exact ⟨0, Nat.zero_le _, rfl, allTo_zero _ _, Since.refl _⟩
  case round =>
    obtain ⟨k, hk, rfl, HT, hs⟩ := hrel
    by_cases hlt : k < m
    · have hx : k < xs.length := by have := HM.out; omega
      obtain ⟨be, oe, rfl, hbe, d0, d1, d2, d3, d4⟩ := HE.out k hx
      have s1 := since_cells hs hbe
      rw [← s1] at d0 d1 d2 d3 d4
      clear s1
      rcases Bool.eq_false_or_eq_true (kpF x xs[k]) with he | he
      · have HX := Lib.hid (allTo_step hx HT.out he)
        have hb0 : (!kpF x xs[k]) = false := by rw [he]; rfl
        clear he
        go_wp2_with fail
        refine (closF_any xs[k] x B _ (HB.out.since hs)).mono ?_
        rintro e w1 ⟨rfl, hs1⟩
        rw [hb0]
        have hs2 := hs.trans hs1
        go_wp2
        go_roundw
        case rel => exact ⟨k + 1, by omega, by go_num, HX, hs2⟩
        case measure => simp [intOf]; omega
      · have HX := Lib.hid (idxP_at hx HT.out he)
        have hb0 : (!kpF x xs[k]) = true := by rw [he]; rfl
        clear he
        go_wp2_with fail
        refine (closF_any xs[k] x B _ (HB.out.since hs)).mono ?_
        rintro e w1 ⟨rfl, hs1⟩
        rw [hb0]
        have hs2 := hs.trans hs1
        go_wp2
        go_ret
        exact ⟨ret_int HX.out.symm, hs2⟩
    · obtain rfl : k = m := by omega
      have HX : Hid (idxP (kpF x) xs = -1) := idxP_none (by rw [← HM.out]; exact HT.out)
      go_wp2
      go_ret
      exact ⟨ret_int HX.out.symm, hs⟩
set_option maxHeartbeats 1000000 in
set_option maxRecDepth 100000 in
theorem delF_any (w0 : World) (v : Value) (xs : List Trv) (x : Int) (B : Nat) (w : World) (h : OwnT w0.heap.size w v xs) (hs0 : Since w0 w) (hB : Blk w B 3 #[.int .i64 x]) (h2 : xs.length ≤ 2097154) :
    Calls Try.prog 87 #[v, .func (.func 88) #[] #[.pointer (some ⟨B, 0, none⟩)]] w (TrOut w0 (xs.filter (kpF x))) := by
  have HT0 := Lib.hid h.at
  have HB := Lib.hid hB
  have HO := Lib.hid h
  rcases idxP_cases (kpF x) xs with ⟨hi, hall⟩ | ⟨i0, hi0, hi, hall, hk0⟩
  · have HI := Lib.hid hi
    have HF : Hid (xs.filter (kpF x) = xs) := List.filter_eq_self.2 hall
    obtain ⟨bo, bc, rfl⟩ := h.len
    clear hi hall h hB
    go_enter Try.func87, Try.ntmps87
    go_wp2_with fail
    refine (indexF_any _ xs x B _ HT0.out HB.out h2).mono ?_
    rintro en w1 ⟨rfl, hs1⟩
    rw [HI.out]
    go_wp2
    go_ret
    exact ⟨_, rfl, by rw [HF.out]; exact HO.out.since hs1, hs0.trans hs1⟩
  · have HI := Lib.hid hi
    have hne := other_type h hB (by decide)
    obtain ⟨g, cap, rfl, hgb⟩ := own_block h (by omega)
    have hBg : B ≠ g := fun e => hne (by rw [e]; rfl)
    obtain ⟨n, hn⟩ : ∃ n, n = xs.length := ⟨_, rfl⟩
    rw [← hn] at HT0 HO ⊢
    have hcap : n ≤ cap := by
      rcases h.2 with ⟨h0, _⟩ | ⟨g', cap', cur, e, _, _, hnc, _⟩
      · cases h0
      · injection e with _ _ e2; omega
    have HN := Lib.hid hn
    have hn9 : n ≤ 2097154 := by omega
    have hin : i0 < n := by omega
    have HA : Hid (delAt (kpF x) xs i0 (i0 + 1) xs) := delAt_zero hi0 hall hk0
    clear hi hall hk0 h hB hn h2 hne
    go_enter Try.func87, Try.ntmps87
    go_wp2_with fail
    refine (indexF_any _ xs x B _ HT0.out HB.out (by have := HN.out; omega)).mono ?_
    rintro en w1 ⟨rfl, hs1⟩
    rw [HI.out]
    have hs01 := hs0.trans hs1
    have HO1 : Hid (OwnT w0.heap.size w1 (.slice (some ⟨g, 0, none⟩) n cap) xs) := by have := HO.out.since hs1; exact this
    have HB1 := Lib.hid (HB.out.since hs1)
    have hneg : ((i0 : Int) == -1) = false := by simp
    clear HT0 HO HB hs1 hs0
    go_wp2_with fail
    go_loopw [5, 6] (fun a b wr => ∃ (i j : Nat) (ys : List Trv), i < j ∧ j ≤ n ∧ a = .int .i64 i ∧ b = .int .i64 j ∧ Hid (delAt (kpF x) xs i j ys) ∧ Hid (OwnT w0.heap.size wr (.slice (some ⟨g, 0, none⟩) n cap) ys) ∧ Hid (Blk wr B 3 #[.int .i64 x]) ∧ Since w0 wr) (fun _ b _ => n - (intOf b).toNat)
    case atStart => exact ⟨i0, i0 + 1, xs, by omega, by omega, rfl, by go_num, HA, HO1, HB1, hs01⟩
    case round =>
      obtain ⟨i, j, ys, hij, hjn, rfl, rfl, HD, HOw, HBw, hsw⟩ := hrel
      have hyl : n = ys.length := HD.out.1.symm ▸ HN.out
      by_cases hlt : j < n
      · have hj : j < ys.length := by omega
        have hjx : j < xs.length := by have := HN.out; omega
        have HV := Lib.hid (delAt_get HD.out hj hjx)
        obtain ⟨d0, d1, d2, d3, d4⟩ := ownT_cells (HOw.out.row hyl) hyl j hj
        rw [HV.out] at d0 d1 d2 d3 d4
        obtain ⟨t, ht⟩ : ∃ t, t = xs[j] := ⟨_, rfl⟩
        rw [← ht] at d0 d1 d2 d3 d4
        have HTx := Lib.hid ht
        clear ht
        have hs2 : Since wr (wr.alloc (.cells #[.int .i64 t.id, .bool t.inv, .int .i64 t.fr, .int .i64 t.dst, .int .i64 t.le] 79)) := (Since.refl wr).alloc _
        have HYL := Lib.hid hyl
        clear hyl
        rcases Bool.eq_false_or_eq_true (kpF x t) with he | he
        · have hb0 : (!kpF x t) = false := by rw [he]; rfl
          have HD2 : Hid (delAt (kpF x) xs (i + 1) (j + 1) (ys.set i t)) := by have := HTx.out; subst this; exact delAt_keep HD.out hij hjx he
          clear he
          go_wp2_with fail
          refine (closF_any t x B _ (HBw.out.since hs2)).mono ?_
          rintro en w3 ⟨rfl, hs3⟩
          rw [hb0]
          have hs23 := hs2.trans hs3
          have hs4 := hsw.trans hs23
          have HO3 := Lib.hid (HOw.out.since hs23)
          have HB3 := Lib.hid (HBw.out.since hs23)
          obtain ⟨e0, e1, e2, e3, e4, _⟩ := ((Blk.new rfl 79 #[.int .i64 t.id, .bool t.inv, .int .i64 t.fr, .int .i64 t.dst, .int .i64 t.le] : Blk (wr.alloc _) wr.heap.size _ _).since hs3).five
          have hi' : i < ys.length := by have := HYL.out; omega
          obtain ⟨c0, c1, c2, c3, c4⟩ := ownT_cells (HO3.out.row HYL.out) HYL.out i hi'
          obtain ⟨yo, hyo⟩ : ∃ yo, yo = ys[i] := ⟨_, rfl⟩
          rw [← hyo] at c0 c1 c2 c3 c4
          clear hyo
          have hown3 : w3.ownsRow w0.heap.size 79 5 (.slice (some ⟨g, 0, none⟩) n cap) n (tcells ys) := by have := HO3.out; unfold OwnT at this; rw [← HYL.out] at this; exact this
          have f0 := hown3.frozenAt (i * 5)
          have f1 := hown3.frozenAt (i * 5 + 1)
          have f2 := hown3.frozenAt (i * 5 + 2)
          have f3 := hown3.frozenAt (i * 5 + 3)
          have f4 := hown3.frozenAt (i * 5 + 4)
          have hst := row_set5 hown3 i hi' t
          have HST := Lib.hid (OwnT.ofRow hst (by rw [List.length_set]; exact HYL.out))
          have hgb' : w0.heap.size ≤ g := hgb
          have HB4 := Lib.hid (((((HB3.out.far (p := ⟨g, i * 5, none⟩) hBg (.int .i64 t.id)).far (p := ⟨g, i * 5 + 1, none⟩) hBg (.bool t.inv)).far (p := ⟨g, i * 5 + 2, none⟩) hBg (.int .i64 t.fr)).far (p := ⟨g, i * 5 + 3, none⟩) hBg (.int .i64 t.dst)).far (p := ⟨g, i * 5 + 4, none⟩) hBg (.int .i64 t.le))
          have hs5 := ((((hs4.setCell (a := ⟨g, i * 5, none⟩) hgb (.int .i64 t.id)).setCell (a := ⟨g, i * 5 + 1, none⟩) hgb (.bool t.inv)).setCell (a := ⟨g, i * 5 + 2, none⟩) hgb (.int .i64 t.fr)).setCell (a := ⟨g, i * 5 + 3, none⟩) hgb (.int .i64 t.dst)).setCell (a := ⟨g, i * 5 + 4, none⟩) hgb (.int .i64 t.le)
          have ii0 : (0 : Int) ≤ (i : Int) := by omega
          have ii1 : (i : Int) < (n : Int) := by omega
          have ii2 : i < n := by omega
          clear d0 d1 d2 d3 d4 hst hown3 HO3 HB3 hs2 hs3 hs23 hs4
          go_wp2
          go_roundw
          case rel => exact ⟨i + 1, j + 1, _, by omega, by omega, by go_num, by go_num, HD2, HST, HB4, hs5⟩
          case measure => simp [intOf]; omega
        · have hb0 : (!kpF x t) = true := by rw [he]; rfl
          have HD2 : Hid (delAt (kpF x) xs i (j + 1) ys) := by have := HTx.out; subst this; exact delAt_drop HD.out hij hjx he
          clear he
          go_wp2_with fail
          refine (closF_any t x B _ (HBw.out.since hs2)).mono ?_
          rintro en w3 ⟨rfl, hs3⟩
          rw [hb0]
          have hs23 := hs2.trans hs3
          have hs4 := hsw.trans hs23
          have HO3 := Lib.hid (HOw.out.since hs23)
          have HB3 := Lib.hid (HBw.out.since hs23)
          clear d0 d1 d2 d3 d4
          go_wp2
          go_roundw
          case rel => exact ⟨i, j + 1, _, by omega, by omega, rfl, by go_num, HD2, HO3, HB3, hs4⟩
          case measure => simp [intOf]; omega
      · obtain rfl : j = n := by omega
        obtain ⟨hrow, hgr⟩ := own_cut w0.heap.size wr g cap j i ys HOw.out hyl (by omega)
        have HR : Hid (OwnT w0.heap.size (wr.setCells g (i * 5) (Builtin.zeroCells (tv zeroT).cells (j - i)).toList) (.slice (some ⟨g, 0, none⟩) i cap) (xs.filter (kpF x)) ) := by
          have := delAt_end HD.out HN.out
          rw [← this]
          unfold Hid OwnT
          rw [List.length_take, ← hyl, Nat.min_eq_left (by omega)]
          exact hrow
        have hs6 : Hid (Since w0 (wr.setCells g (i * 5) (Builtin.zeroCells (tv zeroT).cells (j - i)).toList)) := hsw.grown hgr (fun k hk => by injection hk with hk; omega)
        have hcl : ∀ ty c, (Builtin.clear_ #[82] ty #[.slice (some ⟨g, i * 5, none⟩) (j - i) c]).run Try.prog wr = .ok (.tuple #[]) (wr.setCells g (i * 5) (Builtin.zeroCells (tv zeroT).cells (j - i)).toList) :=
          fun ty c => run_clear_trv w0.heap.size wr ty g cap j i c ys HOw.out hyl (by omega)
        have hci : ¬ cap = i := by omega
        have hic : i ≤ cap := by omega
        have hin2 : i ≤ j := by omega
        have ii0 : (0 : Int) ≤ (i : Int) := by omega
        have ii1 : (i : Int) ≤ (j : Int) := by omega
        have ii2 : (j : Int) ≤ (cap : Int) := by omega
        have ii3 : (i : Int) ≤ (cap : Int) := by omega
        clear hrow hgr hyl
        go_wp2
        go_ret
        exact ⟨_, rfl, HR.out, hs6.out⟩

/-- What traversalsWith keeps. -/
def kpW (x : Int) (t : Trv) : Bool := t.le == x
theorem closW_any (t : Trv) (x : Int) (B : Nat) (w : World) (h : Blk w B 3 #[.int .i64 x]) :
    Calls Try.prog 89 #[.agg #[.int .i64 t.id, .bool t.inv, .int .i64 t.fr, .int .i64 t.dst, .int .i64 t.le], .pointer (some ⟨B, 0, none⟩)] w fun en w' => en = .returned (.bool (!kpW x t)) ∧ Since w w' := by
  have hs0 : Since w (w.alloc (.cells #[.int .i64 t.id, .bool t.inv, .int .i64 t.fr, .int .i64 t.dst, .int .i64 t.le] 79)) := (Since.refl w).alloc _
  obtain ⟨q0, _⟩ := (h.alloc (.cells #[.int .i64 t.id, .bool t.inv, .int .i64 t.fr, .int .i64 t.dst, .int .i64 t.le] 79)).one
  have HK : Hid ((t.le != x) = !kpW x t) := rfl
  clear h
  go_enter Try.func89, Try.ntmps89
  go_wp2
  go_ret
  exact ⟨ret_bool HK.out, hs0⟩
set_option maxRecDepth 100000 in
theorem indexW_any (v : Value) (xs : List Trv) (x : Int) (B : Nat) (w : World) (h : TrvsAt w v xs) (hB : Blk w B 3 #[.int .i64 x]) (h2 : xs.length ≤ 2097154) :
    Calls Try.prog 95 #[v, .func (.func 89) #[] #[.pointer (some ⟨B, 0, none⟩)]] w fun e w' => e = .returned (.int .i64 (idxP (kpW x) xs)) ∧ Since w w' := by
  obtain ⟨bo, bc, rfl, HE⟩ := h
  obtain ⟨m, hm⟩ : ∃ m, m = xs.length := ⟨_, rfl⟩
  rw [← hm]
  have hm9 : m ≤ 2097154 := by omega
  have HM := Lib.hid hm
  have HB := Lib.hid hB
  clear hm h2 hB
  go_enter Try.func95, Try.ntmps95
  go_wp2
  go_loopw [8] (fun i wr => ∃ k : Nat, k ≤ m ∧ i = .int .i64 k ∧ Hid (allTo (kpW x) xs k) ∧ Since w wr) (fun i _ => m - (intOf i).toNat)
  case atStart => exact ⟨0, Nat.zero_le _, rfl, allTo_zero _ _, Since.refl _⟩
  case round =>
    obtain ⟨k, hk, rfl, HT, hs⟩ := hrel
    by_cases hlt : k < m
    · have hx : k < xs.length := by have := HM.out; omega
      obtain ⟨be, oe, rfl, hbe, d0, d1, d2, d3, d4⟩ := HE.out k hx
      have s1 := since_cells hs hbe
      rw [← s1] at d0 d1 d2 d3 d4
      clear s1
      rcases Bool.eq_false_or_eq_true (kpW x xs[k]) with he | he
      · have HX := Lib.hid (allTo_step hx HT.out he)
        have hb0 : (!kpW x xs[k]) = false := by rw [he]; rfl
        clear he
        go_wp2_with fail
        refine (closW_any xs[k] x B _ (HB.out.since hs)).mono ?_
        rintro e w1 ⟨rfl, hs1⟩
        rw [hb0]
        have hs2 := hs.trans hs1
        go_wp2
        go_roundw
        case rel => exact ⟨k + 1, by omega, by go_num, HX, hs2⟩
        case measure => simp [intOf]; omega
      · have HX := Lib.hid (idxP_at hx HT.out he)
        have hb0 : (!kpW x xs[k]) = true := by rw [he]; rfl
        clear he
        go_wp2_with fail
        refine (closW_any xs[k] x B _ (HB.out.since hs)).mono ?_
        rintro e w1 ⟨rfl, hs1⟩
        rw [hb0]
        have hs2 := hs.trans hs1
        go_wp2
        go_ret
        exact ⟨ret_int HX.out.symm, hs2⟩
    · obtain rfl : k = m := by omega
      have HX : Hid (idxP (kpW x) xs = -1) := idxP_none (by rw [← HM.out]; exact HT.out)
      go_wp2
      go_ret
      exact ⟨ret_int HX.out.symm, hs⟩
set_option maxHeartbeats 1000000 in
set_option maxRecDepth 100000 in
theorem delW_any (w0 : World) (v : Value) (xs : List Trv) (x : Int) (B : Nat) (w : World) (h : OwnT w0.heap.size w v xs) (hs0 : Since w0 w) (hB : Blk w B 3 #[.int .i64 x]) (h2 : xs.length ≤ 2097154) :
    Calls Try.prog 87 #[v, .func (.func 89) #[] #[.pointer (some ⟨B, 0, none⟩)]] w (TrOut w0 (xs.filter (kpW x))) := by
  have HT0 := Lib.hid h.at
  have HB := Lib.hid hB
  have HO := Lib.hid h
  rcases idxP_cases (kpW x) xs with ⟨hi, hall⟩ | ⟨i0, hi0, hi, hall, hk0⟩
  · have HI := Lib.hid hi
    have HF : Hid (xs.filter (kpW x) = xs) := List.filter_eq_self.2 hall
    obtain ⟨bo, bc, rfl⟩ := h.len
    clear hi hall h hB
    go_enter Try.func87, Try.ntmps87
    go_wp2_with fail
    refine (indexW_any _ xs x B _ HT0.out HB.out h2).mono ?_
    rintro en w1 ⟨rfl, hs1⟩
    rw [HI.out]
    go_wp2
    go_ret
    exact ⟨_, rfl, by rw [HF.out]; exact HO.out.since hs1, hs0.trans hs1⟩
  · have HI := Lib.hid hi
    have hne := other_type h hB (by decide)
    obtain ⟨g, cap, rfl, hgb⟩ := own_block h (by omega)
    have hBg : B ≠ g := fun e => hne (by rw [e]; rfl)
    obtain ⟨n, hn⟩ : ∃ n, n = xs.length := ⟨_, rfl⟩
    rw [← hn] at HT0 HO ⊢
    have hcap : n ≤ cap := by
      rcases h.2 with ⟨h0, _⟩ | ⟨g', cap', cur, e, _, _, hnc, _⟩
      · cases h0
      · injection e with _ _ e2; omega
    have HN := Lib.hid hn
    have hn9 : n ≤ 2097154 := by omega
    have hin : i0 < n := by omega
    have HA : Hid (delAt (kpW x) xs i0 (i0 + 1) xs) := delAt_zero hi0 hall hk0
    clear hi hall hk0 h hB hn h2 hne
    go_enter Try.func87, Try.ntmps87
    go_wp2_with fail
    refine (indexW_any _ xs x B _ HT0.out HB.out (by have := HN.out; omega)).mono ?_
    rintro en w1 ⟨rfl, hs1⟩
    rw [HI.out]
    have hs01 := hs0.trans hs1
    have HO1 : Hid (OwnT w0.heap.size w1 (.slice (some ⟨g, 0, none⟩) n cap) xs) := by have := HO.out.since hs1; exact this
    have HB1 := Lib.hid (HB.out.since hs1)
    have hneg : ((i0 : Int) == -1) = false := by simp
    clear HT0 HO HB hs1 hs0
    go_wp2_with fail
    go_loopw [5, 6] (fun a b wr => ∃ (i j : Nat) (ys : List Trv), i < j ∧ j ≤ n ∧ a = .int .i64 i ∧ b = .int .i64 j ∧ Hid (delAt (kpW x) xs i j ys) ∧ Hid (OwnT w0.heap.size wr (.slice (some ⟨g, 0, none⟩) n cap) ys) ∧ Hid (Blk wr B 3 #[.int .i64 x]) ∧ Since w0 wr) (fun _ b _ => n - (intOf b).toNat)
    case atStart => exact ⟨i0, i0 + 1, xs, by omega, by omega, rfl, by go_num, HA, HO1, HB1, hs01⟩
    case round =>
      obtain ⟨i, j, ys, hij, hjn, rfl, rfl, HD, HOw, HBw, hsw⟩ := hrel
      have hyl : n = ys.length := HD.out.1.symm ▸ HN.out
      by_cases hlt : j < n
      · have hj : j < ys.length := by omega
        have hjx : j < xs.length := by have := HN.out; omega
        have HV := Lib.hid (delAt_get HD.out hj hjx)
        obtain ⟨d0, d1, d2, d3, d4⟩ := ownT_cells (HOw.out.row hyl) hyl j hj
        rw [HV.out] at d0 d1 d2 d3 d4
        obtain ⟨t, ht⟩ : ∃ t, t = xs[j] := ⟨_, rfl⟩
        rw [← ht] at d0 d1 d2 d3 d4
        have HTx := Lib.hid ht
        clear ht
        have hs2 : Since wr (wr.alloc (.cells #[.int .i64 t.id, .bool t.inv, .int .i64 t.fr, .int .i64 t.dst, .int .i64 t.le] 79)) := (Since.refl wr).alloc _
        have HYL := Lib.hid hyl
        clear hyl
        rcases Bool.eq_false_or_eq_true (kpW x t) with he | he
        · have hb0 : (!kpW x t) = false := by rw [he]; rfl
          have HD2 : Hid (delAt (kpW x) xs (i + 1) (j + 1) (ys.set i t)) := by have := HTx.out; subst this; exact delAt_keep HD.out hij hjx he
          clear he
          go_wp2_with fail
          refine (closW_any t x B _ (HBw.out.since hs2)).mono ?_
          rintro en w3 ⟨rfl, hs3⟩
          rw [hb0]
          have hs23 := hs2.trans hs3
          have hs4 := hsw.trans hs23
          have HO3 := Lib.hid (HOw.out.since hs23)
          have HB3 := Lib.hid (HBw.out.since hs23)
          obtain ⟨e0, e1, e2, e3, e4, _⟩ := ((Blk.new rfl 79 #[.int .i64 t.id, .bool t.inv, .int .i64 t.fr, .int .i64 t.dst, .int .i64 t.le] : Blk (wr.alloc _) wr.heap.size _ _).since hs3).five
          have hi' : i < ys.length := by have := HYL.out; omega
          obtain ⟨c0, c1, c2, c3, c4⟩ := ownT_cells (HO3.out.row HYL.out) HYL.out i hi'
          obtain ⟨yo, hyo⟩ : ∃ yo, yo = ys[i] := ⟨_, rfl⟩
          rw [← hyo] at c0 c1 c2 c3 c4
          clear hyo
          have hown3 : w3.ownsRow w0.heap.size 79 5 (.slice (some ⟨g, 0, none⟩) n cap) n (tcells ys) := by have := HO3.out; unfold OwnT at this; rw [← HYL.out] at this; exact this
          have f0 := hown3.frozenAt (i * 5)
          have f1 := hown3.frozenAt (i * 5 + 1)
          have f2 := hown3.frozenAt (i * 5 + 2)
          have f3 := hown3.frozenAt (i * 5 + 3)
          have f4 := hown3.frozenAt (i * 5 + 4)
          have hst := row_set5 hown3 i hi' t
          have HST := Lib.hid (OwnT.ofRow hst (by rw [List.length_set]; exact HYL.out))
          have hgb' : w0.heap.size ≤ g := hgb
          have HB4 := Lib.hid (((((HB3.out.far (p := ⟨g, i * 5, none⟩) hBg (.int .i64 t.id)).far (p := ⟨g, i * 5 + 1, none⟩) hBg (.bool t.inv)).far (p := ⟨g, i * 5 + 2, none⟩) hBg (.int .i64 t.fr)).far (p := ⟨g, i * 5 + 3, none⟩) hBg (.int .i64 t.dst)).far (p := ⟨g, i * 5 + 4, none⟩) hBg (.int .i64 t.le))
          have hs5 := ((((hs4.setCell (a := ⟨g, i * 5, none⟩) hgb (.int .i64 t.id)).setCell (a := ⟨g, i * 5 + 1, none⟩) hgb (.bool t.inv)).setCell (a := ⟨g, i * 5 + 2, none⟩) hgb (.int .i64 t.fr)).setCell (a := ⟨g, i * 5 + 3, none⟩) hgb (.int .i64 t.dst)).setCell (a := ⟨g, i * 5 + 4, none⟩) hgb (.int .i64 t.le)
          have ii0 : (0 : Int) ≤ (i : Int) := by omega
          have ii1 : (i : Int) < (n : Int) := by omega
          have ii2 : i < n := by omega
          clear d0 d1 d2 d3 d4 hst hown3 HO3 HB3 hs2 hs3 hs23 hs4
          go_wp2
          go_roundw
          case rel => exact ⟨i + 1, j + 1, _, by omega, by omega, by go_num, by go_num, HD2, HST, HB4, hs5⟩
          case measure => simp [intOf]; omega
        · have hb0 : (!kpW x t) = true := by rw [he]; rfl
          have HD2 : Hid (delAt (kpW x) xs i (j + 1) ys) := by have := HTx.out; subst this; exact delAt_drop HD.out hij hjx he
          clear he
          go_wp2_with fail
          refine (closW_any t x B _ (HBw.out.since hs2)).mono ?_
          rintro en w3 ⟨rfl, hs3⟩
          rw [hb0]
          have hs23 := hs2.trans hs3
          have hs4 := hsw.trans hs23
          have HO3 := Lib.hid (HOw.out.since hs23)
          have HB3 := Lib.hid (HBw.out.since hs23)
          clear d0 d1 d2 d3 d4
          go_wp2
          go_roundw
          case rel => exact ⟨i, j + 1, _, by omega, by omega, rfl, by go_num, HD2, HO3, HB3, hs4⟩
          case measure => simp [intOf]; omega
      · obtain rfl : j = n := by omega
        obtain ⟨hrow, hgr⟩ := own_cut w0.heap.size wr g cap j i ys HOw.out hyl (by omega)
        have HR : Hid (OwnT w0.heap.size (wr.setCells g (i * 5) (Builtin.zeroCells (tv zeroT).cells (j - i)).toList) (.slice (some ⟨g, 0, none⟩) i cap) (xs.filter (kpW x)) ) := by
          have := delAt_end HD.out HN.out
          rw [← this]
          unfold Hid OwnT
          rw [List.length_take, ← hyl, Nat.min_eq_left (by omega)]
          exact hrow
        have hs6 : Hid (Since w0 (wr.setCells g (i * 5) (Builtin.zeroCells (tv zeroT).cells (j - i)).toList)) := hsw.grown hgr (fun k hk => by injection hk with hk; omega)
        have hcl : ∀ ty c, (Builtin.clear_ #[82] ty #[.slice (some ⟨g, i * 5, none⟩) (j - i) c]).run Try.prog wr = .ok (.tuple #[]) (wr.setCells g (i * 5) (Builtin.zeroCells (tv zeroT).cells (j - i)).toList) :=
          fun ty c => run_clear_trv w0.heap.size wr ty g cap j i c ys HOw.out hyl (by omega)
        have hci : ¬ cap = i := by omega
        have hic : i ≤ cap := by omega
        have hin2 : i ≤ j := by omega
        have ii0 : (0 : Int) ≤ (i : Int) := by omega
        have ii1 : (i : Int) ≤ (j : Int) := by omega
        have ii2 : (j : Int) ≤ (cap : Int) := by omega
        have ii3 : (i : Int) ≤ (cap : Int) := by omega
        clear hrow hgr hyl
        go_wp2
        go_ret
        exact ⟨_, rfl, HR.out, hs6.out⟩

set_option maxRecDepth 100000 in
theorem travFrom_any (v : Value) (g : Grf) (x : Int) (w : World) (h : GrfAt w v g) (h1 : g.vs.length ≤ 1048577) (h2 : g.es.length ≤ 1048577) :
    Calls Try.prog 71 #[v, .int .i64 x] w (TrOut w ((travG g).filter (kpF x))) := by
  have HG := Lib.hid h
  obtain ⟨a, b, rfl, ha, hb⟩ := h
  obtain ⟨ao, ac, rfl, _⟩ := ha.row
  obtain ⟨bo, bc, rfl⟩ := hb.len
  clear ha hb
  have hlen := Lib.hid (travG_len g h2)
  have hs0 : Since w ((w.alloc (.cells #[.slice ao g.vs.length ac, .slice bo g.es.length bc] 30)).alloc (.cells #[.int .i64 x] 3)) := ((Since.refl w).alloc _).alloc _
  have b1 : Hid (Blk ((w.alloc (.cells #[.slice ao g.vs.length ac, .slice bo g.es.length bc] 30)).alloc (.cells #[.int .i64 x] 3)) (w.heap.size + 1) 3 #[.int .i64 x]) := Blk.new (by simp) _ _
  go_enter Try.func71, Try.ntmps71
  go_wp2_with fail
  refine (trav_any _ g _ (HG.out.since hs0) h1 h2).mono ?_
  rintro en w1 ⟨v1, rfl, ho1, hs1⟩
  have HO := Lib.hid (ho1.mono hs0.size)
  have b2 := Lib.hid (b1.out.since hs1)
  have hs01 := hs0.trans hs1
  clear ho1 hs1 b1
  go_wp2_with fail
  refine (delF_any w _ _ x (w.heap.size + 1) _ HO.out hs01 b2.out hlen.out).mono ?_
  rintro en w2 ⟨v2, rfl, ho2, hs2⟩
  go_wp2
  go_ret
  exact ⟨_, rfl, ho2, hs2⟩
set_option maxRecDepth 100000 in
theorem travWith_any (v : Value) (g : Grf) (x y : Int) (w : World) (h : GrfAt w v g) (h1 : g.vs.length ≤ 1048577) (h2 : g.es.length ≤ 1048577) :
    Calls Try.prog 73 #[v, .int .i64 x, .int .i64 y] w (TrOut w (((travG g).filter (kpF x)).filter (kpW y))) := by
  have HG := Lib.hid h
  obtain ⟨a, b, rfl, ha, hb⟩ := h
  obtain ⟨ao, ac, rfl, _⟩ := ha.row
  obtain ⟨bo, bc, rfl⟩ := hb.len
  clear ha hb
  have hlen : Hid (((travG g).filter (kpF x)).length ≤ 2097154) := Nat.le_trans (List.length_filter_le _ _) (travG_len g h2)
  have hs0 : Since w ((w.alloc (.cells #[.slice ao g.vs.length ac, .slice bo g.es.length bc] 30)).alloc (.cells #[.int .i64 y] 3)) := ((Since.refl w).alloc _).alloc _
  have b1 : Hid (Blk ((w.alloc (.cells #[.slice ao g.vs.length ac, .slice bo g.es.length bc] 30)).alloc (.cells #[.int .i64 y] 3)) (w.heap.size + 1) 3 #[.int .i64 y]) := Blk.new (by simp) _ _
  go_enter Try.func73, Try.ntmps73
  go_wp2_with fail
  refine (travFrom_any _ g x _ (HG.out.since hs0) h1 h2).mono ?_
  rintro en w1 ⟨v1, rfl, ho1, hs1⟩
  have HO := Lib.hid (ho1.mono hs0.size)
  have b2 := Lib.hid (b1.out.since hs1)
  have hs01 := hs0.trans hs1
  clear ho1 hs1 b1
  go_wp2_with fail
  refine (delW_any w _ _ y (w.heap.size + 1) _ HO.out hs01 b2.out hlen.out).mono ?_
  rintro en w2 ⟨v2, rfl, ho2, hs2⟩
  go_wp2
  go_ret
  exact ⟨_, rfl, ho2, hs2⟩
end Go.Proofs.Ytpmkpeclfhmhlaa

/- The program's stepsOf; what it reads of traversals. -/
namespace Go.Proofs.Ytpmkpeclfhmhlaa
set_option maxRecDepth 100000
open Go.ChangeShapes Go.WideShapes Go.ChangeAt Go.RowKit
set_option linter.unusedVariables false
set_option linter.unusedSimpArgs false

theorem filledS_get (xs : List Stp) (k i : Nat) (hk : k ≤ xs.length) (hi : i < xs.length) : i < (filled xs zeroS k).length := by rw [filled_length xs zeroS k hk]; exact hi
theorem row_set2 {w : World} {base g n cap : Nat} {xs : List Stp} (h : w.ownsRow base 49 2 (.slice (some ⟨g, 0, none⟩) n cap) n (scells xs)) (k : Nat) (hk : k < xs.length) (e : Stp) :
    ((w.setCell ⟨g, k * 2, none⟩ (.int .i64 e.id)).setCell ⟨g, k * 2 + 1, none⟩ (.bool e.inv)).ownsRow base 49 2 (.slice (some ⟨g, 0, none⟩) n cap) n (scells (xs.set k e)) := by
  rw [← scells_set xs k hk e]
  exact ((h.stored _ _).1.stored _ _).1
theorem OwnSt.row {base n : Nat} {w : World} {v : Value} {xs : List Stp} (h : OwnSt base w v xs) (hn : n = xs.length) : w.ownsRow base 49 2 v n (scells xs) := by subst hn; exact h
theorem OwnSt.ofRow {base n : Nat} {w : World} {v : Value} {xs : List Stp} (h : w.ownsRow base 49 2 v n (scells xs)) (hn : n = xs.length) : OwnSt base w v xs := by subst hn; exact h
set_option maxHeartbeats 1000000 in
set_option maxRecDepth 100000 in
theorem stepsOf_any (v : Value) (xs : List Trv) (w : World) (h : TrvsAt w v xs) (hl : xs.length ≤ 2097154) :
    Calls Try.prog 70 #[v] w (StOut w (xs.map Trv.st)) := by
  obtain ⟨ao, cap0, rfl, HC⟩ := h
  obtain ⟨i0, hi, hz0, hz1, hz2⟩ := info_parts info_step
  have HZ2 := Lib.hid hz2
  clear hz2
  obtain ⟨n, hn⟩ : ∃ n, n = xs.length := ⟨_, rfl⟩
  rw [← hn]
  have hn9 : n ≤ 2097154 := by omega
  have HN := Lib.hid hn
  obtain ⟨ys, hys⟩ : ∃ ys, ys = xs.map Trv.st := ⟨_, rfl⟩
  rw [← hys]
  have HYL : Hid (n = ys.length) := by unfold Hid; rw [hys, List.length_map]; exact hn
  have HYG : Hid (∀ k (h : k < xs.length) (h2 : k < ys.length), ys[k] = (xs[k]).st) := fun k h h2 => by subst hys; simp
  clear hn hl hys
  go_enter Try.func70, Try.ntmps70
  go_wp2_with (at_make; go_must (refine wpList_make_full _ rfl _ _ 52 rfl w.heap.size 49 i0 (sv zeroS) 2 Try.underlying52 hi hz0 hz1 .i64 .i64 _ _ n rfl rfl rfl rfl (by rw [HZ2.out]; omega) (by unfold maxLen; omega) (Nat.le_refl _) ?_); intro w1 hown hgrow)
  have hsin : Since w w1 := (Since.refl w).grown hgrow (fun _ h => by simp at h)
  have hrow : w1.ownsRow w.heap.size 49 2 (.slice (some ⟨w.heap.size, 0, none⟩) n n) n (scells (filled ys zeroS 0)) := by
    rw [filled_zero, ← HYL.out]
    rw [made_steps] at hown
    exact hown
  clear hown hgrow
  go_loopw [11] (fun i wr => ∃ k : Nat, k ≤ n ∧ i = .int .i64 k ∧ wr.ownsRow w.heap.size 49 2 (.slice (some ⟨w.heap.size, 0, none⟩) n n) n (scells (filled ys zeroS k)) ∧ Since w wr) (fun i _ => n - (intOf i).toNat)
  case atStart => exact ⟨0, Nat.zero_le _, rfl, hrow, hsin⟩
  case round =>
    obtain ⟨k, hk, rfl, hown, hsin⟩ := hrel
    by_cases hlt : k < n
    · have hx : k < xs.length := by have := HN.out; omega
      have hy : k < ys.length := by have := HYL.out; omega
      obtain ⟨b, off, rfl, hb, c0, c1, c2, c3, c4⟩ := HC.out k hx
      have s1 := since_cells hsin hb
      rw [← s1] at c0 c1 c2 c3 c4
      clear s1
      have hs2 : Since wr (wr.alloc (.cells #[.int .i64 xs[k].id, .bool xs[k].inv, .int .i64 xs[k].fr, .int .i64 xs[k].dst, .int .i64 xs[k].le] 79)) := (Since.refl wr).alloc _
      have hown2 := row_since hown hs2
      have hfl : k < (filled ys zeroS k).length := filledS_get ys k k (by omega) hy
      obtain ⟨d0, d1⟩ := ownSt_cells hown2 (by rw [filled_length _ _ _ (by omega)]; exact HYL.out) k hfl
      have f0 := hown2.frozenAt (k * 2)
      have f1 := hown2.frozenAt (k * 2 + 1)
      have hst := row_set2 hown2 k hfl ys[k]
      rw [filled_set ys zeroS k hy] at hst
      rw [HYG.out k hx hy] at hst
      have HST := Lib.hid hst
      obtain ⟨zo, hzo⟩ : ∃ zo, zo = (filled ys zeroS k)[k]'hfl := ⟨_, rfl⟩
      rw [← hzo] at d0 d1
      clear hst hown2 hown hzo
      have hsw := (((hsin.trans hs2).setCell (a := ⟨w.heap.size, k * 2, none⟩) (Nat.le_refl _) (.int .i64 (xs[k]).st.id)).setCell (a := ⟨w.heap.size, k * 2 + 1, none⟩) (Nat.le_refl _) (.bool (xs[k]).st.inv))
      go_wp2
      go_roundw
      case rel => exact ⟨k + 1, by omega, by go_num, HST.out, hsw⟩
      case measure => simp [intOf]; omega
    · obtain rfl : k = n := by omega
      have hfin := filled_all ys zeroS k (by rw [← HYL.out]; exact Nat.le_refl _)
      rw [hfin] at hown
      have HO := Lib.hid (OwnSt.ofRow hown HYL.out)
      clear hfin hown
      go_wp2
      go_ret
      exact ⟨_, rfl, HO.out, hsin⟩
def fromS (g : Grf) (x : Int) : List Stp := ((travG g).filter (kpF x)).map Trv.st
def withS (g : Grf) (x y : Int) : List Stp := (((travG g).filter (kpF x)).filter (kpW y)).map Trv.st
theorem fromS_len (g : Grf) (x : Int) (h2 : g.es.length ≤ 1048577) : (fromS g x).length ≤ 2097154 := by
  unfold fromS; rw [List.length_map]
  exact Nat.le_trans (List.length_filter_le _ _) (travG_len g h2)
theorem withS_len (g : Grf) (x y : Int) (h2 : g.es.length ≤ 1048577) : (withS g x y).length ≤ 2097154 := by
  unfold withS; rw [List.length_map]
  exact Nat.le_trans (List.length_filter_le _ _) (Nat.le_trans (List.length_filter_le _ _) (travG_len g h2))
set_option maxRecDepth 100000 in
theorem implSF_any (v : Value) (g : Grf) (x : Int) (w : World) (h : GrfAt w v g) (h1 : g.vs.length ≤ 1048577) (h2 : g.es.length ≤ 1048577) :
    Calls Try.prog 36 #[v, .int .i64 x] w (StOut w (fromS g x)) := by
  have HG := Lib.hid h
  obtain ⟨a, b, rfl, ha, hb⟩ := h
  obtain ⟨ao, ac, rfl, _⟩ := ha.row
  obtain ⟨bo, bc, rfl⟩ := hb.len
  clear ha hb
  have hlen : Hid (((travG g).filter (kpF x)).length ≤ 2097154) := Nat.le_trans (List.length_filter_le _ _) (travG_len g h2)
  have hs0 : Since w (w.alloc (.cells #[.slice ao g.vs.length ac, .slice bo g.es.length bc] 30)) := (Since.refl w).alloc _
  go_enter Try.func36, Try.ntmps36
  go_wp2_with fail
  refine (travFrom_any _ g x _ (HG.out.since hs0) h1 h2).mono ?_
  rintro en w1 ⟨v1, rfl, ho1, hs1⟩
  have hs01 := hs0.trans hs1
  go_wp2_with fail
  refine (stepsOf_any _ _ _ ho1.at hlen.out).mono ?_
  rintro en w2 ⟨v2, rfl, ho2, hs2⟩
  have HO := Lib.hid (ho2.mono hs01.size)
  have hs02 := hs01.trans hs2
  clear ho2
  go_wp2
  go_ret
  exact ⟨_, rfl, HO.out, hs02⟩
set_option maxRecDepth 100000 in
theorem implSW_any (v : Value) (g : Grf) (x y : Int) (w : World) (h : GrfAt w v g) (h1 : g.vs.length ≤ 1048577) (h2 : g.es.length ≤ 1048577) :
    Calls Try.prog 41 #[v, .int .i64 x, .int .i64 y] w (StOut w (withS g x y)) := by
  have HG := Lib.hid h
  obtain ⟨a, b, rfl, ha, hb⟩ := h
  obtain ⟨ao, ac, rfl, _⟩ := ha.row
  obtain ⟨bo, bc, rfl⟩ := hb.len
  clear ha hb
  have hlen : Hid ((((travG g).filter (kpF x)).filter (kpW y)).length ≤ 2097154) := Nat.le_trans (List.length_filter_le _ _) (Nat.le_trans (List.length_filter_le _ _) (travG_len g h2))
  have hs0 : Since w (w.alloc (.cells #[.slice ao g.vs.length ac, .slice bo g.es.length bc] 30)) := (Since.refl w).alloc _
  go_enter Try.func41, Try.ntmps41
  go_wp2_with fail
  refine (travWith_any _ g x y _ (HG.out.since hs0) h1 h2).mono ?_
  rintro en w1 ⟨v1, rfl, ho1, hs1⟩
  have hs01 := hs0.trans hs1
  go_wp2_with fail
  refine (stepsOf_any _ _ _ ho1.at hlen.out).mono ?_
  rintro en w2 ⟨v2, rfl, ho2, hs2⟩
  have HO := Lib.hid (ho2.mono hs01.size)
  have hs02 := hs01.trans hs2
  clear ho2
  go_wp2
  go_ret
  exact ⟨_, rfl, HO.out, hs02⟩
end Go.Proofs.Ytpmkpeclfhmhlaa

/- Steps of the model: l4Edge, StepFrom, StepTo, StepLetter. -/
namespace Go.Proofs.Ytpmkpeclfhmhlaa
set_option maxRecDepth 100000
open Go.ChangeShapes Go.WideShapes Go.ChangeAt Go.RowKit
set_option linter.unusedVariables false
set_option linter.unusedSimpArgs false

def pickT (e : Edg) (b : Bool) : Trv := bif b then invT e else fwdT e
theorem tOf_cons (e : Edg) (es : List Edg) (s : Stp) : tOf (travL (e :: es)) s = if e.id = s.id then pickT e s.inv else tOf (travL es) s := by
  obtain ⟨i, b⟩ := s
  have h : travL (e :: es) = fwdT e :: invT e :: travL es := rfl
  rw [h]
  by_cases hi : e.id = i
  · rw [if_pos hi]
    cases b
    · unfold tOf
      rw [List.find?_cons_of_pos (by simp [Trv.st, fwdT, hi])]; rfl
    · unfold tOf
      rw [List.find?_cons_of_neg (by simp [Trv.st, fwdT]), List.find?_cons_of_pos (by simp [Trv.st, invT, hi])]; rfl
  · rw [if_neg hi]
    unfold tOf
    rw [List.find?_cons_of_neg (by simp [Trv.st, fwdT, hi]), List.find?_cons_of_neg (by simp [Trv.st, invT, hi])]
theorem tOf_travL (es : List Edg) (s : Stp) (k : Nat) (hk : k < es.length) (h : (es[k]).id = s.id) (hlt : ∀ j (hj : j < k), (es[j]'(by omega)).id ≠ s.id) : tOf (travL es) s = pickT es[k] s.inv := by
  induction es generalizing k with
  | nil => simp at hk
  | cons e es ih =>
    rw [tOf_cons]
    cases k with
    | zero =>
      have h0 : e.id = s.id := h
      rw [if_pos h0]; rfl
    | succ k =>
      have h0 : e.id ≠ s.id := hlt 0 (by omega)
      rw [if_neg h0]
      exact ih k (by simpa using hk) h (fun j hj => hlt (j + 1) (by omega))
theorem tOf_travL_none (es : List Edg) (s : Stp) (h : ∀ j (hj : j < es.length), (es[j]).id ≠ s.id) : tOf (travL es) s = noTrv := by
  induction es with
  | nil => rfl
  | cons e es ih =>
    have h0 : e.id ≠ s.id := h 0 (by simp)
    rw [tOf_cons, if_neg h0]
    exact ih (fun j hj => h (j + 1) (by simp; omega))
theorem tOf_some (g : Grf) (s : Stp) (k : Nat) (hk : k < g.es.length) (hv : validB g = true) (hi : idxE g.es s.id = k) (hlt : ∀ j (hj : j < k), (g.es[j]'(by omega)).id ≠ s.id) : tOf (travG g) s = pickT g.es[k] s.inv := by
  rcases idxE_cases g.es s.id with ⟨k', hk', hi', hid', _⟩ | ⟨hi', _⟩
  · obtain rfl : k' = k := by omega
    unfold travG
    rw [if_pos hv]
    exact tOf_travL _ _ _ hk hid' hlt
  · omega
theorem tOf_noedge (g : Grf) (s : Stp) (hni : ∀ j (hj : j < g.es.length), (g.es[j]).id ≠ s.id) : tOf (travG g) s = noTrv := by
  unfold travG
  split
  · exact tOf_travL_none _ _ hni
  · rfl
theorem tOf_inval (g : Grf) (s : Stp) (hv : validB g = false) : tOf (travG g) s = noTrv := by
  unfold travG
  rw [if_neg (by rw [hv]; decide)]; rfl
theorem tOf_turn (g : Grf) (s : Stp) : (tOf (travG g) ⟨s.id, !s.inv⟩).fr = (tOf (travG g) s).dst := by
  rcases Bool.eq_false_or_eq_true (validB g) with hv | hv
  · rcases idxE_cases g.es s.id with ⟨k, hk, hi, hid, hlt⟩ | ⟨hi, hni⟩
    · rw [tOf_some g s k hk hv hi hlt, tOf_some g ⟨s.id, !s.inv⟩ k hk hv hi hlt]
      cases s.inv <;> rfl
    · rw [tOf_noedge g s hni, tOf_noedge g ⟨s.id, !s.inv⟩ hni]; rfl
  · rw [tOf_inval g s hv, tOf_inval g _ hv]; rfl

set_option maxHeartbeats 1000000 in
set_option maxRecDepth 100000 in
theorem l4_some (v : Value) (g : Grf) (s : Stp) (w : World) (h : GrfAt w v g) (h1 : g.vs.length ≤ 1048577) (h2 : g.es.length ≤ 1048577) (k : Nat) (hk : k < g.es.length) (hv : validB g = true) (hi : idxE g.es s.id = k) :
    Calls Try.prog 67 #[v, sv s] w fun en w' => en = .returned (.tuple #[ev g.es[k], .bool true]) ∧ Since w w' := by
  have HG := Lib.hid h
  obtain ⟨a, b, rfl, ha, hb⟩ := h
  obtain ⟨ao, ac, rfl, _⟩ := ha.row
  obtain ⟨bo, bc, rfl, HE⟩ := hb.row
  clear ha hb
  obtain ⟨n, hn⟩ : ∃ n, n = g.vs.length := ⟨_, rfl⟩
  obtain ⟨m, hm⟩ : ∃ m, m = g.es.length := ⟨_, rfl⟩
  rw [← hn, ← hm] at HG ⊢
  have hm9 : m ≤ 1048577 := by omega
  have HM := Lib.hid hm
  clear hn hm
  unfold sv
  have hs0 : Since w (((w.alloc (.cells #[.slice ao n ac, .slice bo m bc] 30)).alloc (.cells #[.int .i64 s.id, .bool s.inv] 49)).alloc (.cells #[.int .i64 0, .int .i64 0, .int .i64 0, .int .i64 0] 38)) := (((Since.refl w).alloc _).alloc _).alloc _
  have B0 : Hid (Blk (((w.alloc (.cells #[.slice ao n ac, .slice bo m bc] 30)).alloc (.cells #[.int .i64 s.id, .bool s.inv] 49)).alloc (.cells #[.int .i64 0, .int .i64 0, .int .i64 0, .int .i64 0] 38)) w.heap.size 30 #[.slice ao n ac, .slice bo m bc]) := ((Blk.new rfl _ _).alloc _).alloc _
  have R0 : Hid (Blk (((w.alloc (.cells #[.slice ao n ac, .slice bo m bc] 30)).alloc (.cells #[.int .i64 s.id, .bool s.inv] 49)).alloc (.cells #[.int .i64 0, .int .i64 0, .int .i64 0, .int .i64 0] 38)) (w.heap.size + 1 + 1) 38 #[.int .i64 0, .int .i64 0, .int .i64 0, .int .i64 0]) := Blk.new (by simp) _ _
  have HV := Lib.hid hv
  have HI := Lib.hid hi
  clear hv hi
  have hkm : k < m := by have := HM.out; omega
  go_enter Try.func67, Try.ntmps67
  go_wp2_with fail
  refine (specEI_any _ g s.id _ (HG.out.since hs0) h2).mono ?_
  rintro en w1 ⟨rfl, hs1⟩
  have hs01 := hs0.trans hs1
  have b1 := Lib.hid (B0.out.since hs1)
  have r1 := Lib.hid (R0.out.since hs1)
  clear B0 R0
  obtain ⟨p0, p1, _, _⟩ := b1.out.two
  go_wp2_with fail
  refine (specVG_any _ g _ (HG.out.since hs01) h1 h2).mono ?_
  rintro en w2 ⟨rfl, hs2⟩
  clear p0 p1
  have hs02 := hs01.trans hs2
  obtain ⟨p0, p1, _, _⟩ := (b1.out.since hs2).two
  obtain ⟨f0, f1, f2, f3, f4, f5, f6, f7⟩ := (r1.out.since hs2).four
  obtain ⟨be, oe, rfl, hbe, d0, d1, d2, d3⟩ := HE.out k hk
  have c1 := since_cells hs02 hbe
  rw [← c1] at d0 d1 d2 d3
  clear c1
  have ik0 : (0 : Int) ≤ (k : Int) := by omega
  rw [HV.out]
  rw [HI.out]
  go_wp2
  refine bodyPost_ret (v := .tuple #[.agg #[.int .i64 g.es[k].id, .int .i64 g.es[k].fr, .int .i64 g.es[k].to, .int .i64 g.es[k].lb], .bool true]) (by simp [results, Try.results67, go_sem, *]) rfl ⟨rfl, ?_⟩
  iterate 4 (with_reducible refine Since.setCell ?_ (by simp; omega) _)
  exact hs02

set_option maxHeartbeats 1000000 in
set_option maxRecDepth 100000 in
theorem l4_none (v : Value) (g : Grf) (s : Stp) (w : World) (h : GrfAt w v g) (h1 : g.vs.length ≤ 1048577) (h2 : g.es.length ≤ 1048577) (hv : validB g = true) (hi : idxE g.es s.id = -1) :
    Calls Try.prog 67 #[v, sv s] w fun en w' => en = .returned (.tuple #[ev zeroE, .bool false]) ∧ Since w w' := by
  have HG := Lib.hid h
  obtain ⟨a, b, rfl, ha, hb⟩ := h
  obtain ⟨ao, ac, rfl, _⟩ := ha.row
  obtain ⟨bo, bc, rfl, HE⟩ := hb.row
  clear ha hb
  obtain ⟨n, hn⟩ : ∃ n, n = g.vs.length := ⟨_, rfl⟩
  obtain ⟨m, hm⟩ : ∃ m, m = g.es.length := ⟨_, rfl⟩
  rw [← hn, ← hm] at HG ⊢
  have hm9 : m ≤ 1048577 := by omega
  have HM := Lib.hid hm
  clear hn hm
  unfold sv
  have hs0 : Since w (((w.alloc (.cells #[.slice ao n ac, .slice bo m bc] 30)).alloc (.cells #[.int .i64 s.id, .bool s.inv] 49)).alloc (.cells #[.int .i64 0, .int .i64 0, .int .i64 0, .int .i64 0] 38)) := (((Since.refl w).alloc _).alloc _).alloc _
  have B0 : Hid (Blk (((w.alloc (.cells #[.slice ao n ac, .slice bo m bc] 30)).alloc (.cells #[.int .i64 s.id, .bool s.inv] 49)).alloc (.cells #[.int .i64 0, .int .i64 0, .int .i64 0, .int .i64 0] 38)) w.heap.size 30 #[.slice ao n ac, .slice bo m bc]) := ((Blk.new rfl _ _).alloc _).alloc _
  have R0 : Hid (Blk (((w.alloc (.cells #[.slice ao n ac, .slice bo m bc] 30)).alloc (.cells #[.int .i64 s.id, .bool s.inv] 49)).alloc (.cells #[.int .i64 0, .int .i64 0, .int .i64 0, .int .i64 0] 38)) (w.heap.size + 1 + 1) 38 #[.int .i64 0, .int .i64 0, .int .i64 0, .int .i64 0]) := Blk.new (by simp) _ _
  have HV := Lib.hid hv
  have HI := Lib.hid hi
  clear hv hi
  go_enter Try.func67, Try.ntmps67
  go_wp2_with fail
  refine (specEI_any _ g s.id _ (HG.out.since hs0) h2).mono ?_
  rintro en w1 ⟨rfl, hs1⟩
  have hs01 := hs0.trans hs1
  have b1 := Lib.hid (B0.out.since hs1)
  have r1 := Lib.hid (R0.out.since hs1)
  clear B0 R0
  obtain ⟨p0, p1, _, _⟩ := b1.out.two
  go_wp2_with fail
  refine (specVG_any _ g _ (HG.out.since hs01) h1 h2).mono ?_
  rintro en w2 ⟨rfl, hs2⟩
  clear p0 p1
  have hs02 := hs01.trans hs2
  obtain ⟨p0, p1, _, _⟩ := (b1.out.since hs2).two
  obtain ⟨f0, f1, f2, f3, f4, f5, f6, f7⟩ := (r1.out.since hs2).four
  rw [HV.out]
  rw [HI.out]
  go_wp2
  refine bodyPost_ret (v := .tuple #[.agg #[.int .i64 0, .int .i64 0, .int .i64 0, .int .i64 0], .bool false]) (by simp [results, Try.results67, go_sem, *]) rfl ⟨rfl, ?_⟩
  iterate 4 (with_reducible refine Since.setCell ?_ (by simp; omega) _)
  exact hs02

set_option maxHeartbeats 1000000 in
set_option maxRecDepth 100000 in
theorem l4_inval (v : Value) (g : Grf) (s : Stp) (w : World) (h : GrfAt w v g) (h1 : g.vs.length ≤ 1048577) (h2 : g.es.length ≤ 1048577) (hv : validB g = false) :
    Calls Try.prog 67 #[v, sv s] w fun en w' => en = .returned (.tuple #[ev zeroE, .bool false]) ∧ Since w w' := by
  have HG := Lib.hid h
  obtain ⟨a, b, rfl, ha, hb⟩ := h
  obtain ⟨ao, ac, rfl, _⟩ := ha.row
  obtain ⟨bo, bc, rfl, HE⟩ := hb.row
  clear ha hb
  obtain ⟨n, hn⟩ : ∃ n, n = g.vs.length := ⟨_, rfl⟩
  obtain ⟨m, hm⟩ : ∃ m, m = g.es.length := ⟨_, rfl⟩
  rw [← hn, ← hm] at HG ⊢
  have hm9 : m ≤ 1048577 := by omega
  have HM := Lib.hid hm
  clear hn hm
  unfold sv
  have hs0 : Since w (((w.alloc (.cells #[.slice ao n ac, .slice bo m bc] 30)).alloc (.cells #[.int .i64 s.id, .bool s.inv] 49)).alloc (.cells #[.int .i64 0, .int .i64 0, .int .i64 0, .int .i64 0] 38)) := (((Since.refl w).alloc _).alloc _).alloc _
  have B0 : Hid (Blk (((w.alloc (.cells #[.slice ao n ac, .slice bo m bc] 30)).alloc (.cells #[.int .i64 s.id, .bool s.inv] 49)).alloc (.cells #[.int .i64 0, .int .i64 0, .int .i64 0, .int .i64 0] 38)) w.heap.size 30 #[.slice ao n ac, .slice bo m bc]) := ((Blk.new rfl _ _).alloc _).alloc _
  have R0 : Hid (Blk (((w.alloc (.cells #[.slice ao n ac, .slice bo m bc] 30)).alloc (.cells #[.int .i64 s.id, .bool s.inv] 49)).alloc (.cells #[.int .i64 0, .int .i64 0, .int .i64 0, .int .i64 0] 38)) (w.heap.size + 1 + 1) 38 #[.int .i64 0, .int .i64 0, .int .i64 0, .int .i64 0]) := Blk.new (by simp) _ _
  have HV := Lib.hid hv
  clear hv
  go_enter Try.func67, Try.ntmps67
  go_wp2_with fail
  refine (specEI_any _ g s.id _ (HG.out.since hs0) h2).mono ?_
  rintro en w1 ⟨rfl, hs1⟩
  have hs01 := hs0.trans hs1
  have b1 := Lib.hid (B0.out.since hs1)
  have r1 := Lib.hid (R0.out.since hs1)
  clear B0 R0
  obtain ⟨p0, p1, _, _⟩ := b1.out.two
  go_wp2_with fail
  refine (specVG_any _ g _ (HG.out.since hs01) h1 h2).mono ?_
  rintro en w2 ⟨rfl, hs2⟩
  clear p0 p1
  have hs02 := hs01.trans hs2
  obtain ⟨p0, p1, _, _⟩ := (b1.out.since hs2).two
  obtain ⟨f0, f1, f2, f3, f4, f5, f6, f7⟩ := (r1.out.since hs2).four
  rw [HV.out]
  go_wp2
  refine bodyPost_ret (v := .tuple #[.agg #[.int .i64 0, .int .i64 0, .int .i64 0, .int .i64 0], .bool false]) (by simp [results, Try.results67, go_sem, *]) rfl ⟨rfl, ?_⟩
  iterate 4 (with_reducible refine Since.setCell ?_ (by simp; omega) _)
  exact hs02

set_option maxHeartbeats 1000000 in
set_option maxRecDepth 100000 in
theorem specFrom_any (v : Value) (g : Grf) (s : Stp) (w : World) (h : GrfAt w v g) (h1 : g.vs.length ≤ 1048577) (h2 : g.es.length ≤ 1048577) :
    Calls Try.prog 28 #[v, sv s] w fun en w' => en = .returned (.int .i64 (tOf (travG g) s).fr) ∧ Since w w' := by
  have HG := Lib.hid h
  obtain ⟨a, b, rfl, ha, hb⟩ := h
  obtain ⟨ao, ac, rfl, _⟩ := ha.row
  obtain ⟨bo, bc, rfl⟩ := hb.len
  clear ha hb
  have hs0 : Since w ((w.alloc (.cells #[.slice ao g.vs.length ac, .slice bo g.es.length bc] 30)).alloc (.cells #[.int .i64 s.id, .bool s.inv] 49)) := ((Since.refl w).alloc _).alloc _
  have S0 : Hid (Blk ((w.alloc (.cells #[.slice ao g.vs.length ac, .slice bo g.es.length bc] 30)).alloc (.cells #[.int .i64 s.id, .bool s.inv] 49)) (w.heap.size + 1) 49 #[.int .i64 s.id, .bool s.inv]) := Blk.new (by simp) _ _
  rcases Bool.eq_false_or_eq_true (validB g) with hv | hv
  · rcases idxE_cases g.es s.id with ⟨k, hk, hi, hid, hlt⟩ | ⟨hi, hni⟩
    · skip
      have HC := Lib.hid (fun W (hu : GrfAt W (.agg #[.slice ao g.vs.length ac, .slice bo g.es.length bc]) g) => l4_some _ g s W hu h1 h2 k hk hv hi)
      have HV := Lib.hid (tOf_some g s k hk hv hi hlt)
      have HLB := Lib.hid ((((validB_iff g).1 hv).2.2.1 g.es[k] (List.getElem_mem hk)).2.2.2)
      have hlb0 := HLB.out.1
      have hlb2 := HLB.out.2
      clear hv hi hid hlt
      generalize g.es[k] = e at HC HV hlb0 hlb2
      clear HLB
      unfold sv ev at HC
      unfold sv
      cases hinv : s.inv
      all_goals
        have HIN := Lib.hid hinv
        rw [hinv] at HV
        rw [hinv] at HC S0 hs0
        clear hinv
        go_enter Try.func28, Try.ntmps28
        go_wp2_with fail
        refine (HC.out _ (HG.out.since hs0)).mono ?_
        rintro en w1 ⟨rfl, hs1⟩
        obtain ⟨p0, p1, _, _⟩ := ((S0.out.since hs1).alloc (.cells #[.int .i64 e.id, .int .i64 e.fr, .int .i64 e.to, .int .i64 e.lb] 38)).two
        have hs := (hs0.trans hs1).alloc (.cells #[.int .i64 e.id, .int .i64 e.fr, .int .i64 e.to, .int .i64 e.lb] 38)
        go_wp2
        go_ret
        exact ⟨ret_int (by rw [HV.out]; rfl), hs⟩
    · skip
      have HC := Lib.hid (fun W (hu : GrfAt W (.agg #[.slice ao g.vs.length ac, .slice bo g.es.length bc]) g) => l4_none _ g s W hu h1 h2 hv hi)
      have HV := Lib.hid (tOf_noedge g s hni)
      clear hv
      unfold sv ev zeroE at HC
      unfold sv
      go_enter Try.func28, Try.ntmps28
      go_wp2_with fail
      refine (HC.out _ (HG.out.since hs0)).mono ?_
      rintro en w1 ⟨rfl, hs1⟩
      have hs := (hs0.trans hs1).alloc (.cells #[.int .i64 0, .int .i64 0, .int .i64 0, .int .i64 0] 38)
      go_wp2
      go_ret
      exact ⟨ret_int (by rw [HV.out]; rfl), hs⟩
  · skip
    have HC := Lib.hid (fun W (hu : GrfAt W (.agg #[.slice ao g.vs.length ac, .slice bo g.es.length bc]) g) => l4_inval _ g s W hu h1 h2 hv)
    have HV := Lib.hid (tOf_inval g s hv)
    clear hv
    unfold sv ev zeroE at HC
    unfold sv
    go_enter Try.func28, Try.ntmps28
    go_wp2_with fail
    refine (HC.out _ (HG.out.since hs0)).mono ?_
    rintro en w1 ⟨rfl, hs1⟩
    have hs := (hs0.trans hs1).alloc (.cells #[.int .i64 0, .int .i64 0, .int .i64 0, .int .i64 0] 38)
    go_wp2
    go_ret
    exact ⟨ret_int (by rw [HV.out]; rfl), hs⟩

set_option maxHeartbeats 1000000 in
set_option maxRecDepth 100000 in
theorem specLtr_any (v : Value) (g : Grf) (s : Stp) (w : World) (h : GrfAt w v g) (h1 : g.vs.length ≤ 1048577) (h2 : g.es.length ≤ 1048577) :
    Calls Try.prog 33 #[v, sv s] w fun en w' => en = .returned (.int .i64 (tOf (travG g) s).le) ∧ Since w w' := by
  have HG := Lib.hid h
  obtain ⟨a, b, rfl, ha, hb⟩ := h
  obtain ⟨ao, ac, rfl, _⟩ := ha.row
  obtain ⟨bo, bc, rfl⟩ := hb.len
  clear ha hb
  have hs0 : Since w ((w.alloc (.cells #[.slice ao g.vs.length ac, .slice bo g.es.length bc] 30)).alloc (.cells #[.int .i64 s.id, .bool s.inv] 49)) := ((Since.refl w).alloc _).alloc _
  have S0 : Hid (Blk ((w.alloc (.cells #[.slice ao g.vs.length ac, .slice bo g.es.length bc] 30)).alloc (.cells #[.int .i64 s.id, .bool s.inv] 49)) (w.heap.size + 1) 49 #[.int .i64 s.id, .bool s.inv]) := Blk.new (by simp) _ _
  rcases Bool.eq_false_or_eq_true (validB g) with hv | hv
  · rcases idxE_cases g.es s.id with ⟨k, hk, hi, hid, hlt⟩ | ⟨hi, hni⟩
    · skip
      have HC := Lib.hid (fun W (hu : GrfAt W (.agg #[.slice ao g.vs.length ac, .slice bo g.es.length bc]) g) => l4_some _ g s W hu h1 h2 k hk hv hi)
      have HV := Lib.hid (tOf_some g s k hk hv hi hlt)
      have HLB := Lib.hid ((((validB_iff g).1 hv).2.2.1 g.es[k] (List.getElem_mem hk)).2.2.2)
      have hlb0 := HLB.out.1
      have hlb2 := HLB.out.2
      clear hv hi hid hlt
      generalize g.es[k] = e at HC HV hlb0 hlb2
      clear HLB
      unfold sv ev at HC
      unfold sv
      cases hinv : s.inv
      all_goals
        have HIN := Lib.hid hinv
        rw [hinv] at HV
        rw [hinv] at HC S0 hs0
        clear hinv
        go_enter Try.func33, Try.ntmps33
        go_wp2_with fail
        refine (HC.out _ (HG.out.since hs0)).mono ?_
        rintro en w1 ⟨rfl, hs1⟩
        obtain ⟨p0, p1, _, _⟩ := ((S0.out.since hs1).alloc (.cells #[.int .i64 e.id, .int .i64 e.fr, .int .i64 e.to, .int .i64 e.lb] 38)).two
        have hs := (hs0.trans hs1).alloc (.cells #[.int .i64 e.id, .int .i64 e.fr, .int .i64 e.to, .int .i64 e.lb] 38)
        go_wp2
        go_ret
        exact ⟨ret_int (by rw [HV.out]; rfl), hs⟩
    · skip
      have HC := Lib.hid (fun W (hu : GrfAt W (.agg #[.slice ao g.vs.length ac, .slice bo g.es.length bc]) g) => l4_none _ g s W hu h1 h2 hv hi)
      have HV := Lib.hid (tOf_noedge g s hni)
      clear hv
      unfold sv ev zeroE at HC
      unfold sv
      go_enter Try.func33, Try.ntmps33
      go_wp2_with fail
      refine (HC.out _ (HG.out.since hs0)).mono ?_
      rintro en w1 ⟨rfl, hs1⟩
      have hs := (hs0.trans hs1).alloc (.cells #[.int .i64 0, .int .i64 0, .int .i64 0, .int .i64 0] 38)
      go_wp2
      go_ret
      exact ⟨ret_int (by rw [HV.out]; rfl), hs⟩
  · skip
    have HC := Lib.hid (fun W (hu : GrfAt W (.agg #[.slice ao g.vs.length ac, .slice bo g.es.length bc]) g) => l4_inval _ g s W hu h1 h2 hv)
    have HV := Lib.hid (tOf_inval g s hv)
    clear hv
    unfold sv ev zeroE at HC
    unfold sv
    go_enter Try.func33, Try.ntmps33
    go_wp2_with fail
    refine (HC.out _ (HG.out.since hs0)).mono ?_
    rintro en w1 ⟨rfl, hs1⟩
    have hs := (hs0.trans hs1).alloc (.cells #[.int .i64 0, .int .i64 0, .int .i64 0, .int .i64 0] 38)
    go_wp2
    go_ret
    exact ⟨ret_int (by rw [HV.out]; rfl), hs⟩

theorem specTo_any (v : Value) (g : Grf) (s : Stp) (w : World) (h : GrfAt w v g) (h1 : g.vs.length ≤ 1048577) (h2 : g.es.length ≤ 1048577) :
    Calls Try.prog 31 #[v, sv s] w fun en w' => en = .returned (.int .i64 (tOf (travG g) s).dst) ∧ Since w w' := by
  have HG := Lib.hid h
  obtain ⟨a, b, rfl, ha, hb⟩ := h
  obtain ⟨ao, ac, rfl, _⟩ := ha.row
  obtain ⟨bo, bc, rfl⟩ := hb.len
  clear ha hb
  have hs0 : Since w ((w.alloc (.cells #[.slice ao g.vs.length ac, .slice bo g.es.length bc] 30)).alloc (.cells #[.int .i64 s.id, .bool s.inv] 49)) := ((Since.refl w).alloc _).alloc _
  have S0 : Hid (Blk ((w.alloc (.cells #[.slice ao g.vs.length ac, .slice bo g.es.length bc] 30)).alloc (.cells #[.int .i64 s.id, .bool s.inv] 49)) (w.heap.size + 1) 49 #[.int .i64 s.id, .bool s.inv]) := Blk.new (by simp) _ _
  have HC := Lib.hid (fun W (hu : GrfAt W (.agg #[.slice ao g.vs.length ac, .slice bo g.es.length bc]) g) => specFrom_any _ g ⟨s.id, !s.inv⟩ W hu h1 h2)
  have HV := Lib.hid (tOf_turn g s)
  unfold sv at HC ⊢
  go_enter Try.func31, Try.ntmps31
  go_wp2_with fail
  refine (HC.out _ (HG.out.since hs0)).mono ?_
  rintro en w1 ⟨rfl, hs1⟩
  rw [HV.out]
  go_wp2
  go_ret
  exact ⟨rfl, hs0.trans hs1⟩
theorem toStep_any (s : Stp) (w : World) : Calls Try.prog 29 #[sv s] w fun en w' => en = .returned (sv s) ∧ Since w w' := by
  unfold sv
  go_enter Try.func29, Try.ntmps29
  go_wp2
  exact bodyPost_ret (v := .agg #[.int .i64 s.id, .bool s.inv]) (by simp [results, Try.results29, go_sem]) rfl ⟨rfl, (((Since.refl w).alloc _).alloc _).alloc _⟩
end Go.Proofs.Ytpmkpeclfhmhlaa

/- Lists of steps of the model: l4From, StepsFrom, StepsWith. -/
namespace Go.Proofs.Ytpmkpeclfhmhlaa
set_option maxRecDepth 100000
open Go.ChangeShapes Go.WideShapes Go.ChangeAt Go.RowKit
set_option linter.unusedVariables false
set_option linter.unusedSimpArgs false

def pieceL (x : Int) (e : Edg) : List Stp := (if e.fr = x then [⟨e.id, false⟩] else []) ++ (if e.to = x then [⟨e.id, true⟩] else [])
def fromL (x : Int) (es : List Edg) : List Stp := es.flatMap (pieceL x)
theorem fromL_take (x : Int) (es : List Edg) (k : Nat) (hk : k < es.length) : fromL x (es.take (k + 1)) = fromL x (es.take k) ++ pieceL x es[k] := by
  unfold fromL; rw [List.take_succ_eq_append_getElem hk, List.flatMap_append, List.flatMap_cons, List.flatMap_nil, List.append_nil]
theorem fromL_len (x : Int) (es : List Edg) : (fromL x es).length ≤ es.length * 2 := by
  induction es with
  | nil => simp [fromL]
  | cons e es ih =>
    have h : fromL x (e :: es) = pieceL x e ++ fromL x es := rfl
    rw [h, List.length_append, List.length_cons]
    have : (pieceL x e).length ≤ 2 := by unfold pieceL; split <;> split <;> simp
    omega
theorem fromT_cons (x : Int) (e : Edg) (es : List Edg) : ((travL (e :: es)).filter (kpF x)).map Trv.st = pieceL x e ++ ((travL es).filter (kpF x)).map Trv.st := by
  have h : travL (e :: es) = fwdT e :: invT e :: travL es := rfl
  rw [h]
  unfold pieceL
  by_cases h1 : e.fr = x <;> by_cases h2 : e.to = x
  · rw [List.filter_cons_of_pos (by simp [kpF, fwdT, h1]), List.filter_cons_of_pos (by simp [kpF, invT, h2]), if_pos h1, if_pos h2]; rfl
  · rw [List.filter_cons_of_pos (by simp [kpF, fwdT, h1]), List.filter_cons_of_neg (by simp [kpF, invT, h2]), if_pos h1, if_neg h2]; rfl
  · rw [List.filter_cons_of_neg (by simp [kpF, fwdT, h1]), List.filter_cons_of_pos (by simp [kpF, invT, h2]), if_neg h1, if_pos h2]; rfl
  · rw [List.filter_cons_of_neg (by simp [kpF, fwdT, h1]), List.filter_cons_of_neg (by simp [kpF, invT, h2]), if_neg h1, if_neg h2]; rfl
theorem fromL_eq (x : Int) (es : List Edg) : ((travL es).filter (kpF x)).map Trv.st = fromL x es := by
  induction es with
  | nil => rfl
  | cons e es ih => rw [fromT_cons, ih]; rfl
theorem fromS_valid (g : Grf) (x : Int) (hv : validB g = true) : fromS g x = fromL x g.es := by
  unfold fromS travG; rw [if_pos hv]; exact fromL_eq x g.es
theorem fromS_inval (g : Grf) (x : Int) (hv : validB g = false) : fromS g x = [] := by
  unfold fromS travG; rw [if_neg (by rw [hv]; decide)]; rfl
theorem travL_mem {es : List Edg} {t : Trv} (h : t ∈ travL es) : ∃ e ∈ es, t = fwdT e ∨ t = invT e := by
  unfold travL at h
  obtain ⟨e, he, ht⟩ := List.mem_flatMap.1 h
  refine ⟨e, he, ?_⟩
  simpa [both] using ht
theorem tOf_self {es : List Edg} (hs : es.Pairwise idLt) {t : Trv} (h : t ∈ travL es) : tOf (travL es) t.st = t := by
  induction es with
  | nil => simp [travL] at h
  | cons e es ih =>
    rw [tOf_cons]
    have h2 : t = fwdT e ∨ t = invT e ∨ t ∈ travL es := by
      have : travL (e :: es) = fwdT e :: invT e :: travL es := rfl
      rw [this] at h
      simpa using h
    rcases h2 with rfl | rfl | h2
    · rw [if_pos (by rfl)]; rfl
    · rw [if_pos (by rfl)]; rfl
    · obtain ⟨e', he', ht⟩ := travL_mem h2
      have hlt := List.rel_of_pairwise_cons hs he'
      unfold idLt at hlt
      have hid : t.st.id = e'.id := by rcases ht with rfl | rfl <;> rfl
      rw [if_neg (by rw [hid]; omega)]
      exact ih (List.Pairwise.of_cons hs) h2
theorem withS_eq (g : Grf) (x y : Int) : withS g x y = (fromS g x).filter (fun s => (tOf (travG g) s).le == y) := by
  unfold withS fromS
  rw [List.filter_map]
  congr 1
  apply List.filter_congr
  intro t ht
  have ht' := (List.mem_filter.1 ht).1
  show kpW y t = ((tOf (travG g) t.st).le == y)
  rcases Bool.eq_false_or_eq_true (validB g) with hv | hv
  · have hp := ((validB_iff g).1 hv).2.2.2
    unfold travG at ht' ⊢
    rw [if_pos hv] at ht' ⊢
    rw [tOf_self hp ht']; rfl
  · unfold travG at ht'
    rw [if_neg (by rw [hv]; decide)] at ht'
    simp at ht'
theorem ownSt_lit (w w1 : World) (h : Since w w1) (b : Nat) (hb : b = w1.heap.size) : OwnSt w.heap.size (w1.alloc (.cells #[] 49)) (.slice (some ⟨b, 0, none⟩) 0 0) [] := by
  subst hb; exact World.ownsRow_lit w1 #[] 0 h.size (Nat.zero_le _) rfl
/-- append of one step onto steps of the call's own. -/
theorem wpList_append_st {w wr : World} {ops : Array Oper} {rest : List Oper} {o : Oper} {a : Act} {Q : Exit → Act → World → Prop} (hgd : o.guard = none) (s x : Operand)
    (ho : o.op = .call { callee := .builtin .append, args := #[s, x], argTypes := #[52, 52] }) (v : Value) (xs : List Stp) (hs : a.eval s = v) (hown : OwnSt w.heap.size wr v xs)
    (si : Int) (sb : Bool) (hx : a.eval x = .slice (some ⟨wr.heap.size, 0, none⟩) 1 1) (hlen : xs.length ≤ 4194304) (hsin : Since w wr)
    (h : ∀ v' w', OwnSt w.heap.size w' v' (xs ++ [⟨si, sb⟩]) → Since w w' → wpList Try.prog ops Q rest (a.put o.dst v') w') : wpList Try.prog ops Q (o :: rest) a (wr.alloc (.cells #[.int .i64 si, .bool sb] 49)) := by
  obtain ⟨i0, hi, hz0, hz1, hz2⟩ := info_parts info_step
  have hown' : OwnSt w.heap.size (wr.alloc (.cells #[.int .i64 si, .bool sb] 49)) v xs := hown.since ((Since.refl wr).alloc _)
  have hB : Blk (wr.alloc (.cells #[.int .i64 si, .bool sb] 49)) wr.heap.size 49 #[.int .i64 si, .bool sb] := Blk.new rfl _ _
  refine wpList_append_own _ hgd s x 52 ho w.heap.size 49 i0 (sv zeroS) 2 16 Try.underlying52 hi hz0 hz1 hz2 rfl (by decide) v xs.length (scells xs) hs hown' ⟨wr.heap.size, 0, none⟩ 1 1 (scells [⟨si, sb⟩]) hx rfl ?_ (scells_oneCell _) (by unfold maxLen; omega) (by omega) (hsin.alloc _).size ?_
  · intro j u hj
    rw [add_plain, Nat.zero_add, hB.cell, ← hj, ← Array.getElem?_toList]; rfl
  · intro v' w' h1 h2 _
    refine h v' w' ?_ ((hsin.alloc _).grown h2 fun k hk => (hown'.lt k hk).1)
    show w'.ownsRow _ _ _ _ (xs ++ [(⟨si, sb⟩ : Stp)]).length (scells (xs ++ [(⟨si, sb⟩ : Stp)]))
    rw [List.length_append, scells_append]
    exact h1
set_option maxHeartbeats 2000000 in
set_option maxRecDepth 100000 in
theorem l4From_any (v : Value) (g : Grf) (x : Int) (w : World) (h : GrfAt w v g) (h2 : g.es.length ≤ 1048577) :
    Calls Try.prog 69 #[v, .int .i64 x] w (StOut w (fromL x g.es)) := by
  obtain ⟨a, b, rfl, ha, hb⟩ := h
  obtain ⟨ao, ac, rfl, _⟩ := ha.row
  obtain ⟨bo, bc, rfl, HE⟩ := hb.row
  clear ha hb
  obtain ⟨n, hn⟩ : ∃ n, n = g.vs.length := ⟨_, rfl⟩
  obtain ⟨m, hm⟩ : ∃ m, m = g.es.length := ⟨_, rfl⟩
  rw [← hn, ← hm]
  have hm9 : m ≤ 1048577 := by omega
  have HM := Lib.hid hm
  clear hn hm
  have hs0 : Since w (w.alloc (.cells #[.slice ao n ac, .slice bo m bc] 30)) := (Since.refl w).alloc _
  have B0 : Hid (Blk (w.alloc (.cells #[.slice ao n ac, .slice bo m bc] 30)) w.heap.size 30 #[.slice ao n ac, .slice bo m bc]) := Blk.new rfl _ _
  go_enter Try.func69, Try.ntmps69
  go_wp2_with fail
  obtain ⟨y, hy⟩ : ∃ y, y = (w.alloc (.cells #[.slice ao n ac, .slice bo m bc] 30)) := ⟨_, rfl⟩
  rw [← hy] at hs0 B0 ⊢
  have hsz : w.heap.size + 1 = y.heap.size := by rw [hy]; simp
  clear hy
  have HSZ := Lib.hid hsz
  clear hsz
  have hol := ownSt_lit y y (Since.refl y) y.heap.size rfl
  have hsl := (Since.refl y).alloc (.cells #[] 49)
  try rw [HSZ.out]
  go_loopw [5, 6] (fun out i wr => ∃ k : Nat, k ≤ m ∧ i = .int .i64 k ∧ Hid (OwnSt y.heap.size wr out (fromL x (g.es.take k))) ∧ Since y wr) (fun _ i _ => m - (intOf i).toNat)
  case atStart => exact ⟨0, Nat.zero_le _, rfl, hol, hsl⟩
  case round =>
    obtain ⟨k, hk, rfl, HOw, hsw⟩ := hrel
    obtain ⟨p0, p1, _, _⟩ := (B0.out.since hsw).two
    by_cases hlt : k < m
    · have hx : k < g.es.length := by have := HM.out; omega
      obtain ⟨be, oe, rfl, hbe, d0, d1, d2, d3⟩ := HE.out k hx
      have HEC : Hid (∀ W, Since y W → W.cell? ⟨be, oe + k * 4, none⟩ = some (.int .i64 g.es[k].id) ∧ W.cell? ⟨be, oe + k * 4 + 1, none⟩ = some (.int .i64 g.es[k].fr) ∧ W.cell? ⟨be, oe + k * 4 + 2, none⟩ = some (.int .i64 g.es[k].to) ∧ W.cell? ⟨be, oe + k * 4 + 3, none⟩ = some (.int .i64 g.es[k].lb)) := fun W hW => by
        have s1 := since_cells (hs0.trans hW) hbe
        rw [s1, s1, s1, s1]; exact ⟨d0, d1, d2, d3⟩
      clear d0 d1 d2 d3
      obtain ⟨d0, d1, d2, d3⟩ := HEC.out wr hsw
      have HLN : Hid ((fromL x (g.es.take k)).length ≤ 2097154) := by
        have := fromL_len x (g.es.take k)
        rw [List.length_take] at this
        unfold Hid; omega
      have hki : (k : Int) < (m : Int) := by omega
      have hk0 : (0 : Int) ≤ (k : Int) := by omega
      by_cases hf : g.es[k].fr = x <;> by_cases ht : g.es[k].to = x
      · skip
        have hbf : (g.es[k].fr == x) = true := by simpa using hf
        have hbt : (g.es[k].to == x) = true := by simpa using ht
        have HP : Hid (fromL x (g.es.take (k + 1)) = fromL x (g.es.take k) ++ [⟨g.es[k].id, false⟩, ⟨g.es[k].id, true⟩]) := by unfold Hid; rw [fromL_take x g.es k hx]; simp [pieceL, hf, ht]
        clear hf ht
        go_wp2_with (first | (at_builtin; (with_reducible refine wpList_append_st (o := ⟨some 32, _, _, _, _, _⟩) rfl (.tmp 23) (.tmp 31) rfl _ (fromL x (g.es.take k)) (by first | rfl | simp [Act.eval]) HOw.out g.es[k].id false (by first | rfl | simp [Act.eval]) (by have := HLN.out; omega) hsw ?_); intro v23 w23 ho23 hs23; have HO23 := Lib.hid ho23; clear ho23; obtain ⟨p23, r23, _, _⟩ := (B0.out.since hs23).two; obtain ⟨e023, e123, e223, e323⟩ := HEC.out _ hs23) | (at_builtin; (with_reducible refine wpList_append_st (o := ⟨some 50, _, _, _, _, _⟩) rfl (.tmp 41) (.tmp 49) rfl _ ((fromL x (g.es.take k)) ++ [⟨g.es[k].id, false⟩]) (by first | rfl | simp [Act.eval]) HO23.out g.es[k].id true (by first | rfl | simp [Act.eval]) (by have := HLN.out; simp only [List.length_append, List.length_cons, List.length_nil]; omega) hs23 ?_); intro v41 w41 ho41 hs41; have HO41 := Lib.hid ho41; clear ho41; obtain ⟨p41, r41, _, _⟩ := (B0.out.since hs41).two; obtain ⟨e041, e141, e241, e341⟩ := HEC.out _ hs41))
        go_roundw
        case rel => exact ⟨k + 1, by omega, by go_num, (by rw [HP.out]; have := HO41.out; rw [List.append_assoc] at this; exact this), hs41⟩
        case measure => simp [intOf]; omega
      · skip
        have hbf : (g.es[k].fr == x) = true := by simpa using hf
        have hbt : (g.es[k].to == x) = false := by simpa using ht
        have HP : Hid (fromL x (g.es.take (k + 1)) = fromL x (g.es.take k) ++ [⟨g.es[k].id, false⟩]) := by unfold Hid; rw [fromL_take x g.es k hx]; simp [pieceL, hf, ht]
        clear hf ht
        go_wp2_with (first | (at_builtin; (with_reducible refine wpList_append_st (o := ⟨some 32, _, _, _, _, _⟩) rfl (.tmp 23) (.tmp 31) rfl _ (fromL x (g.es.take k)) (by first | rfl | simp [Act.eval]) HOw.out g.es[k].id false (by first | rfl | simp [Act.eval]) (by have := HLN.out; omega) hsw ?_); intro v23 w23 ho23 hs23; have HO23 := Lib.hid ho23; clear ho23; obtain ⟨p23, r23, _, _⟩ := (B0.out.since hs23).two; obtain ⟨e023, e123, e223, e323⟩ := HEC.out _ hs23))
        go_roundw
        case rel => exact ⟨k + 1, by omega, by go_num, (by rw [HP.out]; exact HO23.out), hs23⟩
        case measure => simp [intOf]; omega
      · skip
        have hbf : (g.es[k].fr == x) = false := by simpa using hf
        have hbt : (g.es[k].to == x) = true := by simpa using ht
        have HP : Hid (fromL x (g.es.take (k + 1)) = fromL x (g.es.take k) ++ [⟨g.es[k].id, true⟩]) := by unfold Hid; rw [fromL_take x g.es k hx]; simp [pieceL, hf, ht]
        clear hf ht
        go_wp2_with (first | (at_builtin; (with_reducible refine wpList_append_st (o := ⟨some 50, _, _, _, _, _⟩) rfl (.tmp 41) (.tmp 49) rfl _ (fromL x (g.es.take k)) (by first | rfl | simp [Act.eval]) HOw.out g.es[k].id true (by first | rfl | simp [Act.eval]) (by have := HLN.out; omega) hsw ?_); intro v41 w41 ho41 hs41; have HO41 := Lib.hid ho41; clear ho41; obtain ⟨p41, r41, _, _⟩ := (B0.out.since hs41).two; obtain ⟨e041, e141, e241, e341⟩ := HEC.out _ hs41))
        go_roundw
        case rel => exact ⟨k + 1, by omega, by go_num, (by rw [HP.out]; exact HO41.out), hs41⟩
        case measure => simp [intOf]; omega
      · skip
        have hbf : (g.es[k].fr == x) = false := by simpa using hf
        have hbt : (g.es[k].to == x) = false := by simpa using ht
        have HP : Hid (fromL x (g.es.take (k + 1)) = fromL x (g.es.take k) ++ []) := by unfold Hid; rw [fromL_take x g.es k hx]; simp [pieceL, hf, ht]
        clear hf ht
        go_wp2
        go_roundw
        case rel => exact ⟨k + 1, by omega, by go_num, (by rw [HP.out, List.append_nil]; exact HOw.out), hsw⟩
        case measure => simp [intOf]; omega
    · obtain rfl : k = m := by omega
      have HO : Hid (OwnSt y.heap.size wr u5 (fromL x g.es)) := by
        have := HOw.out
        rw [List.take_of_length_le (by have := HM.out; omega)] at this
        exact this
      clear HOw
      go_wp2
      go_ret
      exact ⟨_, rfl, HO.out.mono (by have := HSZ.out; omega), hs0.trans hsw⟩
set_option maxRecDepth 100000 in
theorem specSF_any (v : Value) (g : Grf) (x : Int) (w : World) (h : GrfAt w v g) (h1 : g.vs.length ≤ 1048577) (h2 : g.es.length ≤ 1048577) :
    Calls Try.prog 35 #[v, .int .i64 x] w (StOut w (fromS g x)) := by
  have HG := Lib.hid h
  obtain ⟨a, b, rfl, ha, hb⟩ := h
  obtain ⟨ao, ac, rfl, _⟩ := ha.row
  obtain ⟨bo, bc, rfl⟩ := hb.len
  clear ha hb
  have hs0 : Since w (w.alloc (.cells #[.slice ao g.vs.length ac, .slice bo g.es.length bc] 30)) := (Since.refl w).alloc _
  have B0 : Hid (Blk (w.alloc (.cells #[.slice ao g.vs.length ac, .slice bo g.es.length bc] 30)) w.heap.size 30 #[.slice ao g.vs.length ac, .slice bo g.es.length bc]) := Blk.new rfl _ _
  rcases Bool.eq_false_or_eq_true (validB g) with hv | hv
  · have HV := Lib.hid hv
    have HF := Lib.hid (fromS_valid g x hv)
    clear hv
    go_enter Try.func35, Try.ntmps35
    go_wp2_with fail
    refine (specVG_any _ g _ (HG.out.since hs0) h1 h2).mono ?_
    rintro en w1 ⟨rfl, hs1⟩
    rw [HV.out]
    have hs01 := hs0.trans hs1
    obtain ⟨p0, p1, _, _⟩ := (B0.out.since hs1).two
    go_wp2_with fail
    refine (l4From_any _ g x _ (HG.out.since hs01) h2).mono ?_
    rintro en w2 ⟨v2, rfl, ho2, hs2⟩
    have HO := Lib.hid (ho2.mono hs01.size)
    have hs02 := hs01.trans hs2
    clear ho2
    go_wp2
    go_ret
    exact ⟨_, rfl, by rw [HF.out]; exact HO.out, hs02⟩
  · have HV := Lib.hid hv
    have HF := Lib.hid (fromS_inval g x hv)
    clear hv
    go_enter Try.func35, Try.ntmps35
    go_wp2_with fail
    refine (specVG_any _ g _ (HG.out.since hs0) h1 h2).mono ?_
    rintro en w1 ⟨rfl, hs1⟩
    rw [HV.out]
    have hs01 := hs0.trans hs1
    have hol := ownSt_lit w w1 hs01 w1.heap.size rfl
    have hs02 := hs01.alloc (.cells #[] 49)
    go_wp2
    go_ret
    exact ⟨_, rfl, by rw [HF.out]; exact hol, hs02⟩
theorem fil_take (p : Stp → Bool) (xs : List Stp) (k : Nat) (hk : k < xs.length) : (xs.take (k + 1)).filter p = (xs.take k).filter p ++ (if p xs[k] = true then [xs[k]] else []) := by
  rw [List.take_succ_eq_append_getElem hk, List.filter_append]
  congr 1
  split
  · rename_i h; rw [List.filter_cons_of_pos h]; rfl
  · rename_i h; rw [List.filter_cons_of_neg h]; rfl
set_option maxHeartbeats 2000000 in
set_option maxRecDepth 100000 in
theorem specSW_any (v : Value) (g : Grf) (x y : Int) (w : World) (h : GrfAt w v g) (h1 : g.vs.length ≤ 1048577) (h2 : g.es.length ≤ 1048577) :
    Calls Try.prog 40 #[v, .int .i64 x, .int .i64 y] w (StOut w (withS g x y)) := by
  have HG := Lib.hid h
  obtain ⟨a, b, rfl, ha, hb⟩ := h
  obtain ⟨ao, ac, rfl, _⟩ := ha.row
  obtain ⟨bo, bc, rfl⟩ := hb.len
  clear ha hb
  have hxl := fromS_len g x h2
  have HW := withS_eq g x y
  have HSF : Hid (∀ W, GrfAt W (.agg #[.slice ao g.vs.length ac, .slice bo g.es.length bc]) g → Calls Try.prog 35 #[.agg #[.slice ao g.vs.length ac, .slice bo g.es.length bc], .int .i64 x] W (StOut W (fromS g x))) := fun W hu => specSF_any _ g x W hu h1 h2
  have HL4 : Hid (∀ W (s : Stp), GrfAt W (.agg #[.slice ao g.vs.length ac, .slice bo g.es.length bc]) g → Calls Try.prog 33 #[.agg #[.slice ao g.vs.length ac, .slice bo g.es.length bc], .agg #[.int .i64 s.id, .bool s.inv]] W fun en w' => en = .returned (.int .i64 (tOf (travG g) s).le) ∧ Since W w') := fun W s hu => specLtr_any _ g s W hu h1 h2
  obtain ⟨n, hn⟩ : ∃ n, n = g.vs.length := ⟨_, rfl⟩
  obtain ⟨m, hm⟩ : ∃ m, m = g.es.length := ⟨_, rfl⟩
  rw [← hn, ← hm] at HG HSF HL4 ⊢
  clear hn hm
  obtain ⟨F, hF⟩ : ∃ F : Stp → Int, F = fun s => (tOf (travG g) s).le := ⟨_, rfl⟩
  have HL4 : Hid (∀ W (s : Stp), GrfAt W (.agg #[.slice ao n ac, .slice bo m bc]) g → Calls Try.prog 33 #[.agg #[.slice ao n ac, .slice bo m bc], .agg #[.int .i64 s.id, .bool s.inv]] W fun en w' => en = .returned (.int .i64 (F s)) ∧ Since W w') := by subst hF; exact HL4
  have HW : Hid (withS g x y = (fromS g x).filter (fun s => F s == y)) := by subst hF; exact HW
  clear hF
  rw [HW.out]
  clear HW
  generalize fromS g x = xs at hxl HSF ⊢
  obtain ⟨q, hq⟩ : ∃ q, q = xs.length := ⟨_, rfl⟩
  have HQ := Lib.hid hq
  have hq9 : q ≤ 2097154 := by omega
  clear hq hxl
  have hs0 : Since w (w.alloc (.cells #[.slice ao n ac, .slice bo m bc] 30)) := (Since.refl w).alloc _
  have B0 : Hid (Blk (w.alloc (.cells #[.slice ao n ac, .slice bo m bc] 30)) w.heap.size 30 #[.slice ao n ac, .slice bo m bc]) := Blk.new rfl _ _
  go_enter Try.func40, Try.ntmps40
  go_wp2_with fail
  refine (HSF.out _ (HG.out.since hs0)).mono ?_
  rintro en w1 ⟨v1, rfl, ho1, hs1⟩
  have hs0m := hs0.trans hs1
  have B1 := Lib.hid (B0.out.since hs1)
  obtain ⟨lo, lc, rfl, HX⟩ := ho1.at
  rw [← HQ.out]
  have hol := ownSt_lit w1 w1 (Since.refl w1) w1.heap.size rfl
  have hsl := (Since.refl w1).alloc (.cells #[] 49)
  clear ho1 hs1 B0
  go_wp2_with fail
  go_loopw [8, 9] (fun out i wr => ∃ k : Nat, k ≤ q ∧ i = .int .i64 k ∧ Hid (OwnSt w1.heap.size wr out ((xs.take k).filter (fun s => F s == y))) ∧ Since w1 wr) (fun _ i _ => q - (intOf i).toNat)
  case atStart => exact ⟨0, Nat.zero_le _, rfl, hol, hsl⟩
  case round =>
    obtain ⟨k, hk, rfl, HOw, hsw⟩ := hrel
    by_cases hlt : k < q
    · have hx : k < xs.length := by have := HQ.out; omega
      obtain ⟨be, oe, rfl, hbe, d0, d1⟩ := HX.out k hx
      have HKC : Hid (∀ w', Since wr w' → w'.cell? ⟨w.heap.size, 0, none⟩ = some (.slice ao n ac) ∧ w'.cell? ⟨w.heap.size, 1, none⟩ = some (.slice bo m bc) ∧ w'.cell? ⟨be, oe + k * 2, none⟩ = some (.int .i64 xs[k].id) ∧ w'.cell? ⟨be, oe + k * 2 + 1, none⟩ = some (.bool xs[k].inv)) := by
        intro w' hs
        obtain ⟨x0, x1, _, _⟩ := (B1.out.since (hsw.trans hs)).two
        have s1 := since_cells (hsw.trans hs) hbe
        exact ⟨x0, x1, (s1 _).trans d0, (s1 _).trans d1⟩
      clear d0 d1
      have hki : (k : Int) < (q : Int) := by omega
      have hk0 : (0 : Int) ≤ (k : Int) := by omega
      have HFT := Lib.hid (fil_take (fun s => F s == y) xs k hx)
      have HLN : Hid (((xs.take k).filter (fun s => F s == y)).length ≤ 2097154) := by
        have := List.length_filter_le (fun s => F s == y) (xs.take k)
        rw [List.length_take] at this
        unfold Hid; omega
      go_wp2_with fail
      refine wp_region_held_drew (S := (fun w' => w'.cell? ⟨w.heap.size, 0, none⟩ = some (.slice ao n ac) ∧ w'.cell? ⟨w.heap.size, 1, none⟩ = some (.slice bo m bc) ∧ w'.cell? ⟨be, oe + k * 2, none⟩ = some (.int .i64 xs[k].id) ∧ w'.cell? ⟨be, oe + k * 2 + 1, none⟩ = some (.bool xs[k].inv))) (by kernel_rfl) (HKC.out _ (Since.refl _).drew) (fun hHeld => ?_)
      refine take_yes 0 (some 20) (v := ?_) rfl (by kernel_rfl) (by kernel_rfl) (by kernel_rfl) (by kernel_rfl) (fun _ _ _ h => h) (by rfl) (by assumption) ?_ ?_
      rotate_left
      · (intro w' hSw; (try dsimp only at hSw); go_simp; try with_reducible rfl)
      try simp only [Act.put, List.setIfInBounds_toArray, List.set_cons_zero, List.set_cons_succ]
      refine take_yes 1 (some 21) (v := ?_) rfl (by kernel_rfl) (by kernel_rfl) (by kernel_rfl) (by kernel_rfl) (fun _ _ _ h => h) (by rfl) (by assumption) ?_ ?_
      rotate_left
      · (intro w' hSw; (try dsimp only at hSw); go_simp; try with_reducible rfl)
      try simp only [Act.put, List.setIfInBounds_toArray, List.set_cons_zero, List.set_cons_succ]
      refine take_yes 2 (some 22) (v := ?_) rfl (by kernel_rfl) (by kernel_rfl) (by kernel_rfl) (by kernel_rfl) (fun _ _ _ h => h) (by rfl) (by assumption) ?_ ?_
      rotate_left
      · (intro w' hSw; (try dsimp only at hSw); go_simp; try with_reducible rfl)
      try simp only [Act.put, List.setIfInBounds_toArray, List.set_cons_zero, List.set_cons_succ]
      refine take_yes 3 (some 23) (v := ?_) rfl (by kernel_rfl) (by kernel_rfl) (by kernel_rfl) (by kernel_rfl) (fun _ _ _ h => h) (by rfl) (by assumption) ?_ ?_
      rotate_left
      · (intro w' hSw; (try dsimp only at hSw); go_simp; try with_reducible rfl)
      try simp only [Act.put, List.setIfInBounds_toArray, List.set_cons_zero, List.set_cons_succ]
      refine take_yes 4 (some 24) (v := ?_) rfl (by kernel_rfl) (by kernel_rfl) (by kernel_rfl) (by kernel_rfl) (fun _ _ _ h => h) (by rfl) (by assumption) ?_ ?_
      rotate_left
      · (intro w' hSw; (try dsimp only at hSw); go_simp; try with_reducible rfl)
      try simp only [Act.put, List.setIfInBounds_toArray, List.set_cons_zero, List.set_cons_succ]
      refine take_yes 6 (some 26) (v := ?_) rfl (by kernel_rfl) (by kernel_rfl) (by kernel_rfl) (by kernel_rfl) (fun _ _ _ h => h) (by rfl) (by assumption) ?_ ?_
      rotate_left
      · (intro w' hSw; (try dsimp only at hSw); go_simp; try with_reducible rfl)
      try simp only [Act.put, List.setIfInBounds_toArray, List.set_cons_zero, List.set_cons_succ]
      refine take_run 5 rfl (by kernel_rfl) (by rfl) (fun K hK => ?_)
      go_simp
      refine (HL4.out _ xs[k] (HG.out.since (hs0m.trans (hsw.trans (Since.refl wr).drew)))).mono ?_
      rintro en q1 ⟨rfl, hq1⟩
      have hq2 := (Since.refl wr).drew.trans hq1
      refine hK.out _ _ (HKC.out _ hq2) (fun hHeld1 => ?_)
      clear hK K hHeld
      try simp only [Act.put, List.setIfInBounds_toArray, List.set_cons_zero, List.set_cons_succ]
      refine take_yes 7 (some 27) (v := ?_) rfl (by kernel_rfl) (by kernel_rfl) (by kernel_rfl) (by kernel_rfl) (fun _ _ _ h => h) (by rfl) (by assumption) ?_ ?_
      rotate_left
      · (intro w' hSw; (try dsimp only at hSw); go_simp; try with_reducible rfl)
      try simp only [Act.put, List.setIfInBounds_toArray, List.set_cons_zero, List.set_cons_succ]
      refine wpAnyH_done (by kernel_rfl) ?_ _
      clear hHeld1
      have HOq := Lib.hid (HOw.out.since hq2)
      have hsq := hsw.trans hq2
      have d3 := HKC.out _ hq2
      obtain ⟨_, _, d0, d1⟩ := d3
      clear HOw hsw hq1 hq2 HKC
      by_cases hy : F xs[k] = y
      · have hb : (F xs[k] == y) = true := by simpa using hy
        have HP : Hid ((xs.take (k + 1)).filter (fun s => F s == y) = (xs.take k).filter (fun s => F s == y) ++ [xs[k]]) := by unfold Hid; rw [HFT.out, if_pos hb]
        clear hy
        go_wp2_with (at_builtin; go_must (refine wpList_append_st rfl (.tmp 28) (.tmp 33) rfl _ _ (by first | rfl | simp [Act.eval]) HOq.out xs[k].id xs[k].inv (by first | rfl | simp [Act.eval]) (by have := HLN.out; omega) hsq ?_); intro v2 w2 ho2 hs2; have HO2 := Lib.hid ho2; clear ho2)
        go_roundw
        case rel => exact ⟨k + 1, by omega, by go_num, (by rw [HP.out]; exact HO2.out), hs2⟩
        case measure => simp [intOf]; omega
      · have hb : (F xs[k] == y) = false := by simpa using hy
        have HP : Hid ((xs.take (k + 1)).filter (fun s => F s == y) = (xs.take k).filter (fun s => F s == y)) := by unfold Hid; rw [HFT.out, if_neg (by rw [hb]; decide), List.append_nil]
        clear hy
        go_wp2
        go_roundw
        case rel => exact ⟨k + 1, by omega, by go_num, (by rw [HP.out]; exact HOq.out), hsq⟩
        case measure => simp [intOf]; omega
    · obtain rfl : k = q := by omega
      have HO : Hid (OwnSt w1.heap.size wr u8 (xs.filter (fun s => F s == y))) := by
        have := HOw.out
        rw [List.take_of_length_le (by have := HQ.out; omega)] at this
        exact this
      clear HOw
      go_wp2
      go_ret
      exact ⟨_, rfl, HO.out.mono hs0m.size, hs0m.trans hsw⟩
end Go.Proofs.Ytpmkpeclfhmhlaa

/- append of one int onto ints of the call's own. -/
namespace Go.Proofs.Ytpmkpeclfhmhlaa
set_option maxRecDepth 100000
open Go.ChangeShapes Go.WideShapes Go.ChangeAt Go.RowKit
set_option linter.unusedVariables false
set_option linter.unusedSimpArgs false

/-- append of one int onto ints of the call's own. -/
theorem wpList_append_int {w wr : World} {ops : Array Oper} {rest : List Oper} {o : Oper} {a : Act} {Q : Exit → Act → World → Prop} (hgd : o.guard = none) (s x : Operand)
    (ho : o.op = .call { callee := .builtin .append, args := #[s, x], argTypes := #[22, 22] }) (v : Value) (xs : List Int) (hs : a.eval s = v) (hown : Own w.heap.size wr v xs)
    (z : Int) (hx : a.eval x = .slice (some ⟨wr.heap.size, 0, none⟩) 1 1) (hz : InI z) (hlen : xs.length ≤ 4194304) (hsin : Since w wr)
    (h : ∀ v' w', Own w.heap.size w' v' (xs ++ [z]) → Since w w' → wpList Try.prog ops Q rest (a.put o.dst v') w') : wpList Try.prog ops Q (o :: rest) a (wr.alloc (.cells #[.int .i64 z] 3)) := by
  obtain ⟨i0, hi, hz0, hz1, hz2⟩ := info_parts info_int
  have hown' : Own w.heap.size (wr.alloc (.cells #[.int .i64 z] 3)) v xs := hown.since ((Since.refl wr).alloc _)
  have hB : Blk (wr.alloc (.cells #[.int .i64 z] 3)) wr.heap.size 3 #[.int .i64 z] := Blk.new rfl _ _
  refine wpList_append_own _ hgd s x 22 ho w.heap.size 3 i0 (.int .i64 0) 1 8 Try.underlying22 hi hz0 hz1 hz2 rfl (by decide) v xs.length (xs.map icell) hs hown'.2 ⟨wr.heap.size, 0, none⟩ 1 1 [icell z] hx rfl ?_ (by intro u hu; simp at hu; subst hu; rfl) (by unfold maxLen; omega) (by omega) (hsin.alloc _).size ?_
  · intro j u hj
    rw [add_plain, Nat.zero_add, hB.cell, ← hj, ← Array.getElem?_toList]; rfl
  · intro v' w' h1 h2 _
    refine h v' w' ⟨fun y hy => ?_, ?_⟩ ((hsin.alloc _).grown h2 fun k hk => (hown'.2.lt k hk).1)
    · rcases List.mem_append.1 hy with hy | hy
      · exact hown.1 y hy
      · simp at hy; subst hy; exact hz
    · rw [List.length_append, List.map_append]
      exact h1
theorem map_take {α β : Type} (f : α → β) (xs : List α) (k : Nat) (hk : k < xs.length) : (xs.take (k + 1)).map f = (xs.take k).map f ++ [f xs[k]] := by
  rw [List.take_succ_eq_append_getElem hk, List.map_append]; rfl
theorem own_one (w w1 : World) (h : Since w w1) (z : Int) (hz : InI z) (b : Nat) (hb : b = w1.heap.size) : Own w.heap.size (w1.alloc (.cells #[.int .i64 z] 3)) (.slice (some ⟨b, 0, none⟩) 1 1) [z] := by
  subst hb; exact ⟨fun x hx => by simp at hx; subst hx; exact hz, World.ownsRow_lit w1 #[.int .i64 z] 1 h.size (by unfold maxLen; omega) rfl⟩
end Go.Proofs.Ytpmkpeclfhmhlaa
