/- The first state of a class: slices.Index, the function that merged makes. -/
import Derived.Test.YtmaagihfjldgeaaA1
import Derived.Test.YtmaagihfjldgeaaA4
import Derived.Test.YtmaagihfjldgeaaMnM
import Derived.BigQuiet
import Derived.Deep.QuietTactic
import Derived.StillTailTactics
namespace Go.Proofs.Ytmaagihfjldgeaa
set_option maxRecDepth 100000
open Go.ChangeShapes Go.WideShapes Go.ChangeAt Go.RowKit Go.Maps
set_option linter.unusedVariables false
set_option linter.unusedSimpArgs false

theorem posN_G : ∀ (xs : List Int) (x : Int), posN xs x = posG xs x
  | [], x => rfl
  | y :: ys, x => by
    unfold posN posG
    rw [posN_G ys x]
set_option maxRecDepth 100000 in
theorem idx_any (v : Value) (xs : List Int) (x : Int) (w : World) (h : IntsAt w v xs) (hl : xs.length ≤ 4000000) :
    Calls Try.prog 207 #[v, .int .i64 x] w fun e w' => e = .returned (.int .i64 (findL xs x)) ∧ w = w' := by
  obtain ⟨ao, cap, rfl, HC⟩ := h.row
  clear h
  obtain ⟨n, hn⟩ : ∃ n, n = xs.length := ⟨_, rfl⟩
  rw [← hn] at hl ⊢
  have HN := Lib.hid hn
  clear hn
  go_enter Try.func207, Try.ntmps207
  go_wp2
  go_loopw [8] (fun i wr => ∃ k : Nat, k ≤ n ∧ i = .int .i64 k ∧ Hid (∀ j (hj : j < xs.length), j < k → xs[j] ≠ x) ∧ wr = w) (fun i _ => n - (intOf i).toNat)
  case atStart => exact ⟨0, Nat.zero_le _, rfl, fun j hj hk => by omega, rfl⟩
  case round =>
    obtain ⟨k, hk, rfl, HJ, rfl⟩ := hrel
    by_cases hlt : k < n
    · have hki : (k : Int) < (n : Int) := by omega
      have hk0 : (0 : Int) ≤ (k : Int) := by omega
      have hkx : k < xs.length := by rw [← HN.out]; exact hlt
      obtain ⟨b, off, rfl, hb, d⟩ := HC.out k hkx
      obtain ⟨q, hq⟩ : ∃ q, q = xs[k] := ⟨_, rfl⟩
      rw [← hq] at d
      by_cases e : q = x
      · have HF : Hid (findL xs x = (k : Int)) := by
          unfold Hid findL
          have hm : x ∈ xs := by rw [← e, hq]; exact List.getElem_mem hkx
          rw [if_pos hm, posN_first xs k hkx x HJ.out (by rw [← hq]; exact e)]
        have hqe : (x == q) = true := by simpa using e.symm
        clear hq e
        go_wp2
        go_ret
        exact ⟨ret_int HF.out.symm, rfl⟩
      · have HJ2 : Hid (∀ j (hj : j < xs.length), j < k + 1 → xs[j] ≠ x) := by
          intro j hj hk2
          by_cases e2 : j = k
          · subst e2; rw [← hq]; exact e
          · exact HJ.out j hj (by omega)
        have hqe : (x == q) = false := by simpa using fun k => e k.symm
        clear hq e
        go_wp2
        go_roundw
        case rel => exact ⟨k + 1, by omega, by go_num, HJ2.out, by first | exact rfl | trivial⟩
        case measure => simp [intOf]; omega
    · have HF : Hid (findL xs x = -1) := by
        unfold Hid findL
        rw [if_neg (fun hm => by
          obtain ⟨j, hj, e⟩ := List.getElem_of_mem hm
          exact HJ.out j hj (by have := HN.out; omega) e)]
      obtain rfl : k = n := by omega
      go_wp2
      go_ret
      exact ⟨ret_int HF.out.symm, rfl⟩
set_option maxRecDepth 100000 in
theorem fst_any (B : Nat) (co : Option Addr) (cc : Nat) (cls : List Int) (t : Nat) (W : World) (hB : Blk W B 24 #[.slice co cls.length cc]) (hI : IntsAt W (.slice co cls.length cc) cls) (ht : t < cls.length) (hl : cls.length ≤ 4000000) :
    Calls Try.prog 206 #[.int .i64 t, .pointer (some ⟨B, 0, none⟩)] W fun e w' => e = .returned (.int .i64 (fstC cls (t : Int))) ∧ Since W w' := by
  have HIX : Hid (∀ W', Since W W' → Calls Try.prog 207 #[.slice co cls.length cc, .int .i64 (clC cls (t : Int))] W' fun e w' => e = .returned (.int .i64 (fstC cls (t : Int))) ∧ w' = W') := fun W' hW => by
    have k := idx_any _ cls (clC cls (t : Int)) W' (hI.since hW) hl
    have e : findL cls (clC cls (t : Int)) = fstC cls (t : Int) := by
      unfold findL fstC
      rw [if_pos (clC_mem (by omega) (by omega)), posN_G]
    rw [e] at k
    exact k.mono fun _ _ h => ⟨h.1, h.2.symm⟩
  obtain ⟨ao2, cap2, e2, HC⟩ := hI.row
  injection e2 with e3 e4 e5
  subst e3 e5
  clear e4
  obtain ⟨b, off, rfl, hb, d⟩ := HC.out t ht
  rw [← clC_at cls t ht] at d
  obtain ⟨z, hz⟩ : ∃ z, z = fstC cls (t : Int) := ⟨_, rfl⟩
  obtain ⟨c, hc⟩ : ∃ c, c = clC cls (t : Int) := ⟨_, rfl⟩
  rw [← hz] at HIX ⊢
  rw [← hc] at HIX d
  obtain ⟨n, hn⟩ : ∃ n, n = cls.length := ⟨_, rfl⟩
  rw [← hn] at HIX ht hB
  have l0 := hB.cell 0
  rw [show (#[Value.slice (some ⟨b, off, none⟩) n cc] : Array Value)[0]? = some (.slice (some ⟨b, off, none⟩) n cc) from rfl] at l0
  have hti : (t : Int) < (n : Int) := by omega
  have ht0 : (0 : Int) ≤ (t : Int) := by omega
  have HKC : Hid (∀ w', Since W w' → w'.cell? ⟨B, 0, none⟩ = some (.slice (some ⟨b, off, none⟩) n cc) ∧ w'.cell? ⟨b, off + t, none⟩ = some (.int .i64 c)) := fun w' hs => ⟨(Below.cell hs (p := ⟨B, 0, none⟩) hB.lt).trans l0, (Below.cell hs (p := ⟨b, off + t, none⟩) hb).trans d⟩
  clear hz hc hn hI HC hl hB l0 d
  go_enter Try.func206, Try.ntmps206
  go_wp2_with fail
  refine wp_region_held_drew (S := (fun w' => w'.cell? ⟨B, 0, none⟩ = some (.slice (some ⟨b, off, none⟩) n cc) ∧ w'.cell? ⟨b, off + t, none⟩ = some (.int .i64 c))) (by kernel_rfl) (HKC.out _ (Since.refl _).drew) (fun hHeld => ?_)
  refine take_yes 0 (some 4) (v := ?_) rfl (by kernel_rfl) (by kernel_rfl) (by kernel_rfl) (by kernel_rfl) (fun _ _ _ h => h) (by rfl) (by assumption) ?_ ?_
  rotate_left
  · (intro w' hSw; (try dsimp only at hSw); go_simp; try with_reducible rfl)
  try simp only [Act.put, List.setIfInBounds_toArray, List.set_cons_zero, List.set_cons_succ]
  refine take_yes 1 (some 5) (v := ?_) rfl (by kernel_rfl) (by kernel_rfl) (by kernel_rfl) (by kernel_rfl) (fun _ _ _ h => h) (by rfl) (by assumption) ?_ ?_
  rotate_left
  · (intro w' hSw; (try dsimp only at hSw); go_simp; try with_reducible rfl)
  try simp only [Act.put, List.setIfInBounds_toArray, List.set_cons_zero, List.set_cons_succ]
  refine take_yes 2 (some 6) (v := ?_) rfl (by kernel_rfl) (by kernel_rfl) (by kernel_rfl) (by kernel_rfl) (fun _ _ _ h => h) (by rfl) (by assumption) ?_ ?_
  rotate_left
  · (intro w' hSw; (try dsimp only at hSw); go_simp; try with_reducible rfl)
  try simp only [Act.put, List.setIfInBounds_toArray, List.set_cons_zero, List.set_cons_succ]
  refine take_yes 3 (some 7) (v := ?_) rfl (by kernel_rfl) (by kernel_rfl) (by kernel_rfl) (by kernel_rfl) (fun _ _ _ h => h) (by rfl) (by assumption) ?_ ?_
  rotate_left
  · (intro w' hSw; (try dsimp only at hSw); go_simp; try with_reducible rfl)
  try simp only [Act.put, List.setIfInBounds_toArray, List.set_cons_zero, List.set_cons_succ]
  refine take_yes 4 (some 8) (v := ?_) rfl (by kernel_rfl) (by kernel_rfl) (by kernel_rfl) (by kernel_rfl) (fun _ _ _ h => h) (by rfl) (by assumption) ?_ ?_
  rotate_left
  · (intro w' hSw; (try dsimp only at hSw); go_simp; try with_reducible rfl)
  try simp only [Act.put, List.setIfInBounds_toArray, List.set_cons_zero, List.set_cons_succ]
  refine take_run 5 rfl (by kernel_rfl) (by rfl) (fun K hK => ?_)
  go_simp
  refine (HIX.out _ (Since.refl _).drew).mono ?_
  rintro e w2 ⟨rfl, rfl⟩
  have hc2 := (Since.refl W).drew
  refine hK.out _ _ (HKC.out _ hc2) (fun hHeld2 => ?_)
  clear hK K hHeld
  try simp only [Act.put, List.setIfInBounds_toArray, List.set_cons_zero, List.set_cons_succ]
  refine take_yes 6 (some 3) (v := ?_) rfl (by kernel_rfl) (by kernel_rfl) (by kernel_rfl) (by kernel_rfl) (fun _ _ _ h => h) (by rfl) (by assumption) ?_ ?_
  rotate_left
  · (intro w' hSw; (try dsimp only at hSw); go_simp; try with_reducible rfl)
  try simp only [Act.put, List.setIfInBounds_toArray, List.set_cons_zero, List.set_cons_succ]
  refine wpAnyH_done (by kernel_rfl) ?_ _
  clear hHeld2
  go_wp2
  go_ret
  exact ⟨rfl, hc2⟩
end Go.Proofs.Ytmaagihfjldgeaa
