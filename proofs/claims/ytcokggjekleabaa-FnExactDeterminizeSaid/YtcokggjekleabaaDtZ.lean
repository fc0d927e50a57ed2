/- Determinize, the program's. -/
import Derived.Test.YtcokggjekleabaaDtM
namespace Go.Proofs.Ytcokggjekleabaa
set_option maxRecDepth 100000
open Go.ChangeShapes Go.WideShapes Go.ChangeAt Go.RowKit Go.Maps
set_option linter.unusedVariables false
set_option linter.unusedSimpArgs false

def detN (p : Psn) : Option (List Int) := numN (stepZ p) 12 1
def detA (p : Psn) : Aut := if posB p = true then autR (stepZ p) (accZ p) (detN p) else ⟨0, [], []⟩
def detC (p : Psn) : Bool := posB p && (detN p).isSome
theorem detM_any (p : Psn) (hv : posB p = true) (BA BC : Nat) (W : World) (h : MchZ p BA BC W) : Calls Try.prog 76 #[mchZV BA BC, .int .i64 12] W (ABOut W (detA p) (detC p)) := by
  have hl := (posB_parts hv).1
  have hQ : ∀ s x k, k < 9 → InZ s → stepZ p s k = some x → InZ x := fun s x k _ _ hx => stepZ_in hl hx
  have h1 : InZ 1 := by unfold InZ; omega
  have k := autZs_any BA BC (stepZ p) (accZ p) InZ hQ (fun s hs => by unfold InZ at hs; unfold InI; omega) 1 h1 12 (by decide) (by decide) W
    (fun fs hf => by
      obtain ⟨f1, _, f3, f4⟩ := numN_some (Q := InZ) (fun s k x hk hs hx => hQ s x k hk hs hx) (by decide) h1 hf
      exact ⟨f1.2, f3, by omega⟩)
    (fun s k W' hW hs hk => nextZ_any p hv hl BA BC s k hs W' (h.since hW)) (fun s W' hW hs => accZ_any p hv BA BC s hs W' (h.since hW))
  unfold detA detC detN
  rw [if_pos hv, hv, Bool.true_and]
  exact k
set_option maxHeartbeats 2000000 in
set_option maxRecDepth 100000 in
theorem implDT_any (v : Value) (p : Psn) (w : World) (h : PsAt w v p) (hl : p.ls.length ≤ maxLen) (hl2 : p.fo.length ≤ maxLen) : Calls Try.prog 34 #[v] w (ABOut w (detA p) (detC p)) := by
  have HPV : Hid (∀ W, Since w W → Calls Try.prog 66 #[v] W fun e w' => e = .returned (.bool (posB p)) ∧ Since W w') := fun W hW => implPV_any v p W (h.since hW) hl hl2
  have HPM : Hid (∀ W, Since w W → posB p = true → Calls Try.prog 75 #[v] W (MchZOut p W)) := fun W hW hv => posM_any v p W (h.since hW) hv
  obtain ⟨a, b, rfl, ha, hb, hi1, hi2⟩ := h
  obtain ⟨ao, ac, rfl, _⟩ := ha.row
  obtain ⟨bo, bc, rfl, _⟩ := hb.row
  clear ha hb hl hl2
  obtain ⟨y, hy⟩ : ∃ y, y = (w.alloc (.cells #[.slice ao p.ls.length ac, .int .i64 p.fi, .int .i64 p.la, .slice bo p.fo.length bc, .bool p.nu] 41)).alloc (.cells #[.int .i64 0, .slice none 0 0, .slice none 0 0] 27) := ⟨_, rfl⟩
  have hs0 : Since w y := by rw [hy]; exact ((Since.refl w).alloc _).alloc _
  have hz : y.heap.size = w.heap.size + 2 := by rw [hy]; simp
  have B0 : Hid (Blk y w.heap.size 41 #[.slice ao p.ls.length ac, .int .i64 p.fi, .int .i64 p.la, .slice bo p.fo.length bc, .bool p.nu]) := by rw [hy]; exact (Blk.new rfl _ _).alloc _
  have B1 : Hid (Blk y (w.heap.size + 1) 27 #[.int .i64 0, .slice none 0 0, .slice none 0 0]) := by rw [hy]; exact Blk.new (by simp) _ _
  have HY := Lib.hid hy
  have HZ := Lib.hid hz
  clear hy hz
  cases e : posB p with
  | false =>
    have HB := Lib.hid e
    have HA : Hid (detA p = ⟨0, [], []⟩) := by unfold Hid detA; rw [if_neg (by rw [e]; decide)]
    have HC : Hid (detC p = false) := by unfold Hid detC; rw [e]; rfl
    rw [HA.out, HC.out]
    clear e
    go_enter Try.func34, Try.ntmps34
    go_upto_region 1 with fail
    rw [← HY.out]
    obtain ⟨⟨p0, p1, p2, p3, p4⟩, _⟩ := B0.out.fiveP
    go_wp2_with fail
    refine (HPV.out _ hs0).mono ?_
    rintro e w1 ⟨rfl, hs1⟩
    rw [HB.out]
    have HS1 := Lib.hid (hs0.trans hs1)
    obtain ⟨⟨r0, r1, r2⟩, r3, r4, r5⟩ := (B1.out.since hs1).threeA
    clear p0 p1 p2 p3 p4
    go_wp2
    refine bodyPost_ret (v := .tuple #[.agg #[.int .i64 0, nilS, nilS], .bool false]) (by simp [results, Try.results34, go_sem, *]) rfl ?_
    refine ⟨_, rfl, ownA_zero _ _ _, ?_⟩
    repeat' (first | exact HS1.out | with_reducible refine Since.setCell ?_ (by simp <;> omega) _)
  | true =>
    have HB := Lib.hid e
    have HDM : Hid (∀ BA BC W, MchZ p BA BC W → Calls Try.prog 76 #[mchZV BA BC, .int .i64 12] W (ABOut W (detA p) (detC p))) := fun BA BC W hw => detM_any p HB.out BA BC W hw
    obtain ⟨R, hR⟩ : ∃ R, R = detA p := ⟨_, rfl⟩
    obtain ⟨C, hC⟩ : ∃ C, C = detC p := ⟨_, rfl⟩
    rw [← hR, ← hC] at HDM ⊢
    clear e hR hC
    go_enter Try.func34, Try.ntmps34
    go_upto_region 1 with fail
    rw [← HY.out]
    obtain ⟨⟨p0, p1, p2, p3, p4⟩, _⟩ := B0.out.fiveP
    go_wp2_with fail
    refine (HPV.out _ hs0).mono ?_
    rintro e w1 ⟨rfl, hs1⟩
    rw [HB.out]
    have HS1 := Lib.hid (hs0.trans hs1)
    have C0 := Lib.hid (B0.out.since hs1)
    have C1 := Lib.hid (B1.out.since hs1)
    have hz1 : w.heap.size + 2 ≤ w1.heap.size := by have := hs1.size; have := HZ.out; omega
    clear p0 p1 p2 p3 p4 B0 B1 hs1 hs0
    obtain ⟨⟨p0, p1, p2, p3, p4⟩, _⟩ := C0.out.fiveP
    go_wp2_with fail
    refine (HPM.out _ HS1.out HB.out).mono ?_
    rintro e w2 ⟨BA, BC, rfl, hm2, hs2⟩
    go_wp2_with fail
    refine (HDM.out _ _ _ hm2).mono ?_
    rintro e w3 ⟨v3, rfl, ho3, hs3⟩
    have HS3 := Lib.hid (HS1.out.trans (hs2.trans hs3))
    have hw2 := hs2.size
    have hw3 := hs3.size
    obtain ⟨r3a, r3b, rfl, i3, o3, n3, q3⟩ := ho3
    obtain ⟨so, sc, rfl⟩ := o3.len
    obtain ⟨uo, uc, rfl⟩ := q3.len
    have HO3 : Hid (OwnA _ _ _ _ _) := ⟨_, _, rfl, i3, o3, n3, q3⟩
    obtain ⟨⟨r0, r1, r2⟩, r3, r4, r5⟩ := (C1.out.since (hs2.trans hs3)).threeA
    clear p0 p1 p2 p3 p4 i3 o3 n3 q3 hm2
    go_wp2
    refine bodyPost_ret (v := .tuple #[.agg #[.int .i64 R.st, .slice so R.ac.length sc, .slice uo R.nx.length uc], .bool C]) (by simp [results, Try.results34, go_sem, *]) rfl ?_
    refine ⟨_, rfl, ?_, ?_⟩
    · refine OwnA.wider (lo := w2.heap.size) (hi := w3.heap.size) ?_ (by omega) (by simp)
      iterate 3 (with_reducible refine OwnA.far1 ?_ (.inl (by omega)) _ _)
      exact HO3.out
    · iterate 3 (with_reducible refine Since.setCell ?_ (by simp <;> omega) _)
      exact HS3.out
end Go.Proofs.Ytcokggjekleabaa
