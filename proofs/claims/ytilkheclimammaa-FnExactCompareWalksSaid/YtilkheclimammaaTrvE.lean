/- The program's traversals of an edge: both its steps. -/
import Derived.Test.YtilkheclimammaaStp
import Derived.Test.YtilkheclimammaaBlk
import Derived.Test.YtilkheclimammaaReg
import Derived.Test.YtilkheclimammaaLet
namespace Go.Proofs.Ytilkheclimammaa
set_option maxRecDepth 100000
open Go.ChangeShapes Go.WideShapes Go.ChangeAt Go.RowKit
set_option linter.unusedVariables false
set_option linter.unusedSimpArgs false

def fwdT (e : Edg) : Trv := ⟨e.id, false, e.fr, e.to, 2 * e.lb⟩
def invT (e : Edg) : Trv := ⟨e.id, true, e.to, e.fr, 2 * e.lb + 1⟩
def both (e : Edg) : List Trv := [fwdT e, invT e]
def travL (es : List Edg) : List Trv := es.flatMap both
theorem travL_length (es : List Edg) : (travL es).length = es.length * 2 := fcells_len2 (fun _ => rfl) es
theorem invL_move {x : Int} (h0 : 0 ≤ x) (h2 : x ≤ 2) : invL (2 * x) = 2 * x + 1 := by
  have h : x = 0 ∨ x = 1 ∨ x = 2 := by omega
  rcases h with h | h | h <;> subst h <;> decide
theorem Blk.five {w : World} {g : Nat} {t : TypeId} {a b c d e : Value} (h : Blk w g t #[a, b, c, d, e]) : w.cell? ⟨g, 0, none⟩ = some a ∧ w.cell? ⟨g, 1, none⟩ = some b ∧ w.cell? ⟨g, 2, none⟩ = some c ∧ w.cell? ⟨g, 3, none⟩ = some d ∧ w.cell? ⟨g, 4, none⟩ = some e ∧
    w.frozen? ⟨g, 0, none⟩ = false ∧ w.frozen? ⟨g, 1, none⟩ = false ∧ w.frozen? ⟨g, 2, none⟩ = false ∧ w.frozen? ⟨g, 3, none⟩ = false ∧ w.frozen? ⟨g, 4, none⟩ = false :=
  ⟨h.cell 0, h.cell 1, h.cell 2, h.cell 3, h.cell 4, h.frozen 0, h.frozen 1, h.frozen 2, h.frozen 3, h.frozen 4⟩
theorem Blk.ten {w : World} {g : Nat} {t : TypeId} {a b c d e a' b' c' d' e' : Value} (h : Blk w g t #[a, b, c, d, e, a', b', c', d', e']) : w.cell? ⟨g, 0, none⟩ = some a ∧ w.cell? ⟨g, 1, none⟩ = some b ∧ w.cell? ⟨g, 2, none⟩ = some c ∧ w.cell? ⟨g, 3, none⟩ = some d ∧ w.cell? ⟨g, 4, none⟩ = some e ∧
    w.cell? ⟨g, 5, none⟩ = some a' ∧ w.cell? ⟨g, 6, none⟩ = some b' ∧ w.cell? ⟨g, 7, none⟩ = some c' ∧ w.cell? ⟨g, 8, none⟩ = some d' ∧ w.cell? ⟨g, 9, none⟩ = some e' ∧
    w.frozen? ⟨g, 0, none⟩ = false ∧ w.frozen? ⟨g, 1, none⟩ = false ∧ w.frozen? ⟨g, 2, none⟩ = false ∧ w.frozen? ⟨g, 3, none⟩ = false ∧ w.frozen? ⟨g, 4, none⟩ = false ∧
    w.frozen? ⟨g, 5, none⟩ = false ∧ w.frozen? ⟨g, 6, none⟩ = false ∧ w.frozen? ⟨g, 7, none⟩ = false ∧ w.frozen? ⟨g, 8, none⟩ = false ∧ w.frozen? ⟨g, 9, none⟩ = false :=
  ⟨h.cell 0, h.cell 1, h.cell 2, h.cell 3, h.cell 4, h.cell 5, h.cell 6, h.cell 7, h.cell 8, h.cell 9, h.frozen 0, h.frozen 1, h.frozen 2, h.frozen 3, h.frozen 4, h.frozen 5, h.frozen 6, h.frozen 7, h.frozen 8, h.frozen 9⟩

set_option maxHeartbeats 1000000 in
set_option maxRecDepth 100000 in
theorem edgeTrav_any (e : Edg) (w : World) (hl0 : 0 ≤ e.lb) (hl2 : e.lb ≤ 2) :
    Calls Try.prog 114 #[ev e] w fun en w' => en = .returned (.agg #[.int .i64 e.id, .bool false, .int .i64 e.fr, .int .i64 e.to, .int .i64 (2 * e.lb), .int .i64 e.id, .bool true, .int .i64 e.to, .int .i64 e.fr, .int .i64 (2 * e.lb + 1)]) ∧ Since w w' := by
  unfold ev
  have HIL := Lib.hid (invL_move hl0 hl2)
  have hs0 : Since w (((w.alloc (.cells #[.int .i64 e.id, .int .i64 e.fr, .int .i64 e.to, .int .i64 e.lb] 108)).alloc (.cells #[.int .i64 0, .bool false, .int .i64 0, .int .i64 0, .int .i64 0, .int .i64 0, .bool false, .int .i64 0, .int .i64 0, .int .i64 0] 128)).alloc (.cells #[.int .i64 e.id, .bool false, .int .i64 e.fr, .int .i64 e.to, .int .i64 (2 * e.lb)] 77)) := (((Since.refl w).alloc _).alloc _).alloc _
  have b0 : Hid (Blk (((w.alloc (.cells #[.int .i64 e.id, .int .i64 e.fr, .int .i64 e.to, .int .i64 e.lb] 108)).alloc (.cells #[.int .i64 0, .bool false, .int .i64 0, .int .i64 0, .int .i64 0, .int .i64 0, .bool false, .int .i64 0, .int .i64 0, .int .i64 0] 128)).alloc (.cells #[.int .i64 e.id, .bool false, .int .i64 e.fr, .int .i64 e.to, .int .i64 (2 * e.lb)] 77)) w.heap.size 108 #[.int .i64 e.id, .int .i64 e.fr, .int .i64 e.to, .int .i64 e.lb]) := ((Blk.new rfl _ _).alloc _).alloc _
  have r0 : Hid (Blk (((w.alloc (.cells #[.int .i64 e.id, .int .i64 e.fr, .int .i64 e.to, .int .i64 e.lb] 108)).alloc (.cells #[.int .i64 0, .bool false, .int .i64 0, .int .i64 0, .int .i64 0, .int .i64 0, .bool false, .int .i64 0, .int .i64 0, .int .i64 0] 128)).alloc (.cells #[.int .i64 e.id, .bool false, .int .i64 e.fr, .int .i64 e.to, .int .i64 (2 * e.lb)] 77)) (w.heap.size + 1) 128 #[.int .i64 0, .bool false, .int .i64 0, .int .i64 0, .int .i64 0, .int .i64 0, .bool false, .int .i64 0, .int .i64 0, .int .i64 0]) := (Blk.new (by simp) _ _).alloc _
  have t0 : Hid (Blk (((w.alloc (.cells #[.int .i64 e.id, .int .i64 e.fr, .int .i64 e.to, .int .i64 e.lb] 108)).alloc (.cells #[.int .i64 0, .bool false, .int .i64 0, .int .i64 0, .int .i64 0, .int .i64 0, .bool false, .int .i64 0, .int .i64 0, .int .i64 0] 128)).alloc (.cells #[.int .i64 e.id, .bool false, .int .i64 e.fr, .int .i64 e.to, .int .i64 (2 * e.lb)] 77)) (w.heap.size + 1 + 1) 77 #[.int .i64 e.id, .bool false, .int .i64 e.fr, .int .i64 e.to, .int .i64 (2 * e.lb)]) := Blk.new (by simp) _ _
  have hz : Hid (w.heap.size + 3 = (((w.alloc (.cells #[.int .i64 e.id, .int .i64 e.fr, .int .i64 e.to, .int .i64 e.lb] 108)).alloc (.cells #[.int .i64 0, .bool false, .int .i64 0, .int .i64 0, .int .i64 0, .int .i64 0, .bool false, .int .i64 0, .int .i64 0, .int .i64 0] 128)).alloc (.cells #[.int .i64 e.id, .bool false, .int .i64 e.fr, .int .i64 e.to, .int .i64 (2 * e.lb)] 77)).heap.size) := by unfold Hid; simp
  go_enter Try.func114, Try.ntmps114
  go_wp2_with fail
  generalize (((w.alloc (.cells #[.int .i64 e.id, .int .i64 e.fr, .int .i64 e.to, .int .i64 e.lb] 108)).alloc (.cells #[.int .i64 0, .bool false, .int .i64 0, .int .i64 0, .int .i64 0, .int .i64 0, .bool false, .int .i64 0, .int .i64 0, .int .i64 0] 128)).alloc (.cells #[.int .i64 e.id, .bool false, .int .i64 e.fr, .int .i64 e.to, .int .i64 (2 * e.lb)] 77)) = y at hs0 b0 r0 t0 hz ⊢
  have HKC : Hid (∀ w', Since y w' → w'.cell? ⟨w.heap.size, 0, none⟩ = some (.int .i64 e.id) ∧ w'.cell? ⟨w.heap.size, 1, none⟩ = some (.int .i64 e.fr) ∧ w'.cell? ⟨w.heap.size, 2, none⟩ = some (.int .i64 e.to) ∧ w'.cell? ⟨w.heap.size + 1 + 1, 4, none⟩ = some (.int .i64 (2 * e.lb))) := by
    intro w' hs
    obtain ⟨x0, x1, x2, x3, _, _, _, _⟩ := (b0.out.since hs).four
    obtain ⟨_, _, _, _, y4, _, _, _, _, _⟩ := (t0.out.since hs).five
    exact ⟨x0, x1, x2, y4⟩
  refine wp_region_held_drew (S := (fun w' => w'.cell? ⟨w.heap.size, 0, none⟩ = some (.int .i64 e.id) ∧ w'.cell? ⟨w.heap.size, 1, none⟩ = some (.int .i64 e.fr) ∧ w'.cell? ⟨w.heap.size, 2, none⟩ = some (.int .i64 e.to) ∧ w'.cell? ⟨w.heap.size + 1 + 1, 4, none⟩ = some (.int .i64 (2 * e.lb)))) (by kernel_rfl) (HKC.out _ (Since.refl _).drew) (fun hHeld => ?_)
  refine take_yes 0 (some 16) (v := ?_) rfl (by kernel_rfl) (by kernel_rfl) (by kernel_rfl) (by kernel_rfl) (fun _ _ _ h => h) (by rfl) (by assumption) ?_ ?_
  rotate_left
  · (intro w' hSw; (try dsimp only at hSw); go_simp; try with_reducible rfl)
  try simp only [Act.put, List.setIfInBounds_toArray, List.set_cons_zero, List.set_cons_succ]
  refine take_yes 1 (some 17) (v := ?_) rfl (by kernel_rfl) (by kernel_rfl) (by kernel_rfl) (by kernel_rfl) (fun _ _ _ h => h) (by rfl) (by assumption) ?_ ?_
  rotate_left
  · (intro w' hSw; (try dsimp only at hSw); go_simp; try with_reducible rfl)
  try simp only [Act.put, List.setIfInBounds_toArray, List.set_cons_zero, List.set_cons_succ]
  refine take_yes 2 (some 18) (v := ?_) rfl (by kernel_rfl) (by kernel_rfl) (by kernel_rfl) (by kernel_rfl) (fun _ _ _ h => h) (by rfl) (by assumption) ?_ ?_
  rotate_left
  · (intro w' hSw; (try dsimp only at hSw); go_simp; try with_reducible rfl)
  try simp only [Act.put, List.setIfInBounds_toArray, List.set_cons_zero, List.set_cons_succ]
  refine take_yes 3 (some 19) (v := ?_) rfl (by kernel_rfl) (by kernel_rfl) (by kernel_rfl) (by kernel_rfl) (fun _ _ _ h => h) (by rfl) (by assumption) ?_ ?_
  rotate_left
  · (intro w' hSw; (try dsimp only at hSw); go_simp; try with_reducible rfl)
  try simp only [Act.put, List.setIfInBounds_toArray, List.set_cons_zero, List.set_cons_succ]
  refine take_yes 4 (some 20) (v := ?_) rfl (by kernel_rfl) (by kernel_rfl) (by kernel_rfl) (by kernel_rfl) (fun _ _ _ h => h) (by rfl) (by assumption) ?_ ?_
  rotate_left
  · (intro w' hSw; (try dsimp only at hSw); go_simp; try with_reducible rfl)
  try simp only [Act.put, List.setIfInBounds_toArray, List.set_cons_zero, List.set_cons_succ]
  refine take_yes 5 (some 21) (v := ?_) rfl (by kernel_rfl) (by kernel_rfl) (by kernel_rfl) (by kernel_rfl) (fun _ _ _ h => h) (by rfl) (by assumption) ?_ ?_
  rotate_left
  · (intro w' hSw; (try dsimp only at hSw); go_simp; try with_reducible rfl)
  try simp only [Act.put, List.setIfInBounds_toArray, List.set_cons_zero, List.set_cons_succ]
  refine take_yes 6 (some 22) (v := ?_) rfl (by kernel_rfl) (by kernel_rfl) (by kernel_rfl) (by kernel_rfl) (fun _ _ _ h => h) (by rfl) (by assumption) ?_ ?_
  rotate_left
  · (intro w' hSw; (try dsimp only at hSw); go_simp; try with_reducible rfl)
  try simp only [Act.put, List.setIfInBounds_toArray, List.set_cons_zero, List.set_cons_succ]
  refine take_yes 7 (some 23) (v := ?_) rfl (by kernel_rfl) (by kernel_rfl) (by kernel_rfl) (by kernel_rfl) (fun _ _ _ h => h) (by rfl) (by assumption) ?_ ?_
  rotate_left
  · (intro w' hSw; (try dsimp only at hSw); go_simp; try with_reducible rfl)
  try simp only [Act.put, List.setIfInBounds_toArray, List.set_cons_zero, List.set_cons_succ]
  refine take_yes 8 (some 24) (v := ?_) rfl (by kernel_rfl) (by kernel_rfl) (by kernel_rfl) (by kernel_rfl) (fun _ _ _ h => h) (by rfl) (by assumption) ?_ ?_
  rotate_left
  · (intro w' hSw; (try dsimp only at hSw); go_simp; try with_reducible rfl)
  try simp only [Act.put, List.setIfInBounds_toArray, List.set_cons_zero, List.set_cons_succ]
  refine take_two 9 11 rfl rfl (by kernel_rfl) (by rfl) (by rfl) (fun K hK => ?_) (fun K hK => ?_)
  · skip
    go_simp
    refine (implIL_any (2 * e.lb) _).mono ?_
    rintro en q ⟨rfl, rfl⟩
    rw [HIL.out]
    refine hK.out _ _ (HKC.out _ (Since.refl y).drew) (fun hHeldc => ?_)
    clear hK K hHeld
    try simp only [Act.put, List.setIfInBounds_toArray, List.set_cons_zero, List.set_cons_succ]
    refine take_yes 10 (some 26) (v := ?_) rfl (by kernel_rfl) (by kernel_rfl) (by kernel_rfl) (by kernel_rfl) (fun _ _ _ h => h) (by rfl) (by assumption) ?_ ?_
    rotate_left
    · (intro w' hSw; (try dsimp only at hSw); go_simp; try with_reducible rfl)
    try simp only [Act.put, List.setIfInBounds_toArray, List.set_cons_zero, List.set_cons_succ]
    refine take_run 11 rfl (by kernel_rfl) (by rfl) (fun K hK => ?_)
    go_simp
    have hca := Since.alloc (Since.refl y).drew (.cells #[.int .i64 0, .bool false, .int .i64 0, .int .i64 0, .int .i64 0] 77)
    have BA : Hid (Blk (y.drew.alloc (.cells #[.int .i64 0, .bool false, .int .i64 0, .int .i64 0, .int .i64 0] 77)) y.heap.size 77 #[.int .i64 0, .bool false, .int .i64 0, .int .i64 0, .int .i64 0]) := Blk.new rfl _ _
    refine hK.out _ _ (HKC.out _ hca) (fun hHelda => ?_)
    clear hK K hHeldc
    try simp only [Act.put, List.setIfInBounds_toArray, List.set_cons_zero, List.set_cons_succ]
    refine take_run 12 rfl (by kernel_rfl) (by rfl) (fun K hK => ?_)
    have s := BA.out.five
    obtain ⟨s0, s1, s2, s3, s4, s5, s6, s7, s8, s9⟩ := s
    go_simp
    clear s0 s1 s2 s3 s4 s5 s6 s7 s8 s9
    have hcf : Since y ((y.alloc (.cells #[.int .i64 e.id, .bool true, .int .i64 e.to, .int .i64 e.fr, .int .i64 (2 * e.lb + 1)] 77)).drew) := ((Since.refl y).alloc _).drew
    refine hK.out _ _ (HKC.out _ hcf) (fun hHeldz => ?_)
    clear hK K hHelda
    try simp only [Act.put, List.setIfInBounds_toArray, List.set_cons_zero, List.set_cons_succ]
    refine wpAnyH_done (by kernel_rfl) ?_ _
    clear hHeldz
    have BF : Blk ((y.alloc (.cells #[.int .i64 e.id, .bool true, .int .i64 e.to, .int .i64 e.fr, .int .i64 (2 * e.lb + 1)] 77)).drew) y.heap.size 77 #[.int .i64 e.id, .bool true, .int .i64 e.to, .int .i64 e.fr, .int .i64 (2 * e.lb + 1)] := (Blk.new rfl _ _).drew
    obtain ⟨u0, u1, u2, u3, u4, _, _, _, _, _⟩ := (t0.out.since hcf).five
    obtain ⟨v0, v1, v2, v3, v4, _, _, _, _, _⟩ := BF.five
    have HR := Lib.hid (r0.out.since hcf)
    have hsz : Since w _ := hs0.trans hcf
    obtain ⟨d0, d1, d2, d3, d4, d5, d6, d7, d8, d9, e0, e1, e2, e3, e4, e5, e6, e7, e8, e9⟩ := HR.out.ten
    clear BF
    generalize ((y.alloc (.cells #[.int .i64 e.id, .bool true, .int .i64 e.to, .int .i64 e.fr, .int .i64 (2 * e.lb + 1)] 77)).drew) = yf at u0 u1 u2 u3 u4 v0 v1 v2 v3 v4 HR hsz d0 d1 d2 d3 d4 d5 d6 d7 d8 d9 e0 e1 e2 e3 e4 e5 e6 e7 e8 e9 ⊢
    go_wp2_with fail
    refine bodyPost_ret (v := .agg #[.int .i64 e.id, .bool false, .int .i64 e.fr, .int .i64 e.to, .int .i64 (2 * e.lb), .int .i64 e.id, .bool true, .int .i64 e.to, .int .i64 e.fr, .int .i64 (2 * e.lb + 1)]) (by simp [results, Try.results114, go_sem, *]) rfl ⟨rfl, ?_⟩
    iterate 10 (with_reducible refine Since.setCell ?_ (by simp) _)
    exact hsz
  · skip
    go_simp
    have hca := Since.alloc (Since.refl y).drew (.cells #[.int .i64 0, .bool false, .int .i64 0, .int .i64 0, .int .i64 0] 77)
    have BA : Hid (Blk (y.drew.alloc (.cells #[.int .i64 0, .bool false, .int .i64 0, .int .i64 0, .int .i64 0] 77)) y.heap.size 77 #[.int .i64 0, .bool false, .int .i64 0, .int .i64 0, .int .i64 0]) := Blk.new rfl _ _
    refine hK.out _ _ (HKC.out _ hca) (fun hHelda => ?_)
    clear hK K hHeld
    try simp only [Act.put, List.setIfInBounds_toArray, List.set_cons_zero, List.set_cons_succ]
    refine take_run 9 rfl (by kernel_rfl) (by rfl) (fun K hK => ?_)
    go_simp
    refine (implIL_any (2 * e.lb) _).mono ?_
    rintro en q ⟨rfl, rfl⟩
    rw [HIL.out]
    refine hK.out _ _ (HKC.out _ hca) (fun hHeldc => ?_)
    clear hK K hHelda
    try simp only [Act.put, List.setIfInBounds_toArray, List.set_cons_zero, List.set_cons_succ]
    refine take_yes 10 (some 26) (v := ?_) rfl (by kernel_rfl) (by kernel_rfl) (by kernel_rfl) (by kernel_rfl) (fun _ _ _ h => h) (by rfl) (by assumption) ?_ ?_
    rotate_left
    · (intro w' hSw; (try dsimp only at hSw); go_simp; try with_reducible rfl)
    try simp only [Act.put, List.setIfInBounds_toArray, List.set_cons_zero, List.set_cons_succ]
    refine take_run 12 rfl (by kernel_rfl) (by rfl) (fun K hK => ?_)
    have s := BA.out.five
    obtain ⟨s0, s1, s2, s3, s4, s5, s6, s7, s8, s9⟩ := s
    go_simp
    clear s0 s1 s2 s3 s4 s5 s6 s7 s8 s9
    have hcf : Since y ((y.alloc (.cells #[.int .i64 e.id, .bool true, .int .i64 e.to, .int .i64 e.fr, .int .i64 (2 * e.lb + 1)] 77)).drew) := ((Since.refl y).alloc _).drew
    refine hK.out _ _ (HKC.out _ hcf) (fun hHeldz => ?_)
    clear hK K hHeldc
    try simp only [Act.put, List.setIfInBounds_toArray, List.set_cons_zero, List.set_cons_succ]
    refine wpAnyH_done (by kernel_rfl) ?_ _
    clear hHeldz
    have BF : Blk ((y.alloc (.cells #[.int .i64 e.id, .bool true, .int .i64 e.to, .int .i64 e.fr, .int .i64 (2 * e.lb + 1)] 77)).drew) y.heap.size 77 #[.int .i64 e.id, .bool true, .int .i64 e.to, .int .i64 e.fr, .int .i64 (2 * e.lb + 1)] := (Blk.new rfl _ _).drew
    obtain ⟨u0, u1, u2, u3, u4, _, _, _, _, _⟩ := (t0.out.since hcf).five
    obtain ⟨v0, v1, v2, v3, v4, _, _, _, _, _⟩ := BF.five
    have HR := Lib.hid (r0.out.since hcf)
    have hsz : Since w _ := hs0.trans hcf
    obtain ⟨d0, d1, d2, d3, d4, d5, d6, d7, d8, d9, e0, e1, e2, e3, e4, e5, e6, e7, e8, e9⟩ := HR.out.ten
    clear BF
    generalize ((y.alloc (.cells #[.int .i64 e.id, .bool true, .int .i64 e.to, .int .i64 e.fr, .int .i64 (2 * e.lb + 1)] 77)).drew) = yf at u0 u1 u2 u3 u4 v0 v1 v2 v3 v4 HR hsz d0 d1 d2 d3 d4 d5 d6 d7 d8 d9 e0 e1 e2 e3 e4 e5 e6 e7 e8 e9 ⊢
    go_wp2_with fail
    refine bodyPost_ret (v := .agg #[.int .i64 e.id, .bool false, .int .i64 e.fr, .int .i64 e.to, .int .i64 (2 * e.lb), .int .i64 e.id, .bool true, .int .i64 e.to, .int .i64 e.fr, .int .i64 (2 * e.lb + 1)]) (by simp [results, Try.results114, go_sem, *]) rfl ⟨rfl, ?_⟩
    iterate 10 (with_reducible refine Since.setCell ?_ (by simp) _)
    exact hsz
end Go.Proofs.Ytilkheclimammaa
