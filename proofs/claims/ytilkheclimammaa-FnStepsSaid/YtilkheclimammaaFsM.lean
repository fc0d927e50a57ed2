/- Steps: what the law about steps needs to know of them; the laws' has. -/
import Derived.Test.YtilkheclimammaaNaM
import Derived.Test.YtilkheclimammaaWkR
namespace Go.Proofs.Ytilkheclimammaa
set_option maxRecDepth 100000
open Go.ChangeShapes Go.WideShapes Go.ChangeAt Go.RowKit
set_option linter.unusedVariables false
set_option linter.unusedSimpArgs false

theorem fs_math (g : Grf) (x : Int) (s : Stp) (hs : s ∈ fromS g x) :
    (tOf (travG g) s).fr = x ∧ (tOf (travG g) (turnS s)).dst = x ∧ (tOf (travG g) (turnS s)).le = invL (tOf (travG g) s).le ∧ (tOf (travG g) s).dst ∈ setL (endsL g x (tOf (travG g) s).le) ∧ s ∈ withS g x (tOf (travG g) s).le := by
  unfold fromS at hs
  obtain ⟨t, ht, rfl⟩ := List.mem_map.1 hs
  obtain ⟨hm, hk⟩ := List.mem_filter.1 ht
  have hfr : t.fr = x := by unfold kpF at hk; simpa using hk
  have hmem : t.dst ∈ endsL g x t.le ∧ t.st ∈ withS g x t.le := by
    have h2 : t ∈ ((travG g).filter (kpF x)).filter (kpW t.le) := List.mem_filter.2 ⟨ht, by unfold kpW; simp⟩
    exact ⟨List.mem_map.2 ⟨t, h2, rfl⟩, List.mem_map.2 ⟨t, h2, rfl⟩⟩
  have hb := endsL_small g x t.le t.dst hmem.1
  cases hv : validB g with
  | false =>
    unfold travG at hm
    rw [if_neg (by rw [hv]; decide)] at hm
    simp at hm
  | true =>
    have e : travG g = travL g.es := by unfold travG; rw [if_pos hv]
    have hp := ((validB_iff g).1 hv).2.2.2
    rw [e] at hm
    have h1 := tOf_self hp hm
    have h2 := tOf_self hp (turnT_mem hm)
    have h3 : (turnT t).st = turnS t.st := rfl
    rw [h3] at h2
    rw [e, h1, h2]
    refine ⟨hfr, hfr, turn_le hv hm, (setL_mem _ _).2 ⟨hmem.1, by omega, by omega⟩, hmem.2⟩
set_option maxRecDepth 100000 in
theorem has_any (v : Value) (xs : List Int) (y : Int) (w : World) (h : IntsAt w v xs) (hl : xs.length ≤ 1048577) :
    Calls Try.prog 20 #[v, .int .i64 y] w fun e w' => e = .returned (.bool (decide (y ∈ xs))) ∧ w = w' := by
  obtain ⟨ao, ac, rfl, HX⟩ := h.row
  obtain ⟨n, hn⟩ : ∃ n, n = xs.length := ⟨_, rfl⟩
  have HN := Lib.hid hn
  rw [← hn]
  have hn9 : n ≤ 1048577 := by omega
  clear hn h
  go_enter Try.func20, Try.ntmps20
  go_wp2_with fail
  go_loopw [5] (fun i wr => ∃ k : Nat, k ≤ n ∧ i = .int .i64 k ∧ wr = w ∧ Hid (y ∉ xs.take k)) (fun i _ => n - (intOf i).toNat)
  case atStart => exact ⟨0, Nat.zero_le _, rfl, rfl, by unfold Hid; simp⟩
  case round =>
    obtain ⟨k, hk, rfl, rfl, HK⟩ := hrel
    by_cases hlt : k < n
    · have hx : k < xs.length := by have := HN.out; omega
      obtain ⟨b, off, rfl, _, hc⟩ := HX.out k hx
      by_cases he : xs[k] = y
      · have hD : Hid (decide (y ∈ xs) = true) := decide_eq_true (by rw [← he]; exact List.getElem_mem hx)
        rw [he] at hc
        clear he
        go_wp2
        go_ret
        exact ⟨ret_bool hD.out.symm, rfl⟩
      · have e : (xs[k] == y) = false := by simpa using he
        have HK2 : Hid (y ∉ xs.take (k + 1)) := by
          unfold Hid
          rw [List.take_succ_eq_append_getElem hx, List.mem_append, List.mem_singleton]
          rintro (h | h)
          · exact HK.out h
          · exact he h.symm
        clear he HK
        generalize xs[k] = z at hc e
        go_wp2
        go_roundw
        case rel => exact ⟨k + 1, by omega, by go_num, trivial, HK2⟩
        case measure => simp [intOf]; omega
    · obtain rfl : k = n := by omega
      have HD : Hid (decide (y ∈ xs) = false) := by
        have := HK.out
        rw [List.take_of_length_le (by have := HN.out; omega)] at this
        exact decide_eq_false this
      go_wp2
      go_ret
      exact ⟨ret_bool HD.out.symm, rfl⟩
end Go.Proofs.Ytilkheclimammaa
