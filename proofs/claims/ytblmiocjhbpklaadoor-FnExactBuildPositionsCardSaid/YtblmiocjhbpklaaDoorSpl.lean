/- SplitExpr, the program's and the model's. -/
import Derived.Test.YtblmiocjhbpklaaDoorTap
import Derived.Test.YtblmiocjhbpklaaDoorIx
import Derived.Test.YtblmiocjhbpklaaDoorK1
namespace Go.Proofs.YtblmiocjhbpklaaDoor
set_option maxRecDepth 100000
open Go.ChangeShapes Go.WideShapes Go.ChangeAt Go.RowKit
set_option linter.unusedVariables false
set_option linter.unusedSimpArgs false

/-- An expression whose slice is not longer than its capacity. -/
def CapX (v : Value) : Prop := ∃ ao n c, v = .agg #[.slice ao n c] ∧ n ≤ c
def ExC (w : World) (v : Value) (xs : List Tok) : Prop := ExAt w v xs ∧ CapX v
theorem OwnX.atC {lo hi : Nat} {w : World} {v : Value} {xs : List Tok} (h : OwnX lo hi w v xs) : ExC w v xs := by
  refine ⟨h.at, ?_⟩
  obtain ⟨b, rfl, h1, _⟩ := h
  rcases h1.2.2 with ⟨rfl, _⟩ | ⟨g, cap, cur, rfl, _, _, hc, _⟩
  · exact ⟨none, 0, 0, rfl, Nat.le_refl _⟩
  · exact ⟨_, _, cap, rfl, hc⟩
theorem ExC.open {w : World} {v : Value} {xs : List Tok} (h : ExC w v xs) : ∃ ao c, v = .agg #[.slice ao xs.length c] ∧ ToksAt w (.slice ao xs.length c) xs ∧ xs.length ≤ c := by
  obtain ⟨⟨b, rfl, hb⟩, ao, n, c, e, hc⟩ := h
  obtain ⟨ao', c', rfl⟩ := hb.len
  injection e with e; injection e with e; injection e with e _; injection e with e1 e2 e3
  subst e1; subst e2; subst e3
  exact ⟨_, _, rfl, hb, hc⟩
theorem scan_le {xs : List Tok} {K k m : Nat} (h : Scan xs K k m) : m ≤ k := by
  induction h with
  | done => exact Nat.zero_le _
  | step k m hk hok h ih => omega
set_option maxHeartbeats 1000000 in
set_option maxRecDepth 100000 in
theorem l8Start_any (v : Value) (xs : List Tok) (K : Nat) (w : World) (h : ToksAt w v xs) (hS : Scan xs K xs.length 1) (hl : xs.length ≤ 1048577) :
    Calls Tryd.prog 115 #[v] w fun e w' => e = .returned (.int .i64 K) ∧ Since w w' := by
  obtain ⟨ao, ac, rfl, HC⟩ := h.row
  clear h
  obtain ⟨n, hn⟩ : ∃ n, n = xs.length := ⟨_, rfl⟩
  rw [← hn] at hS ⊢
  have HN := Lib.hid hn
  have hn9 : n ≤ 1048577 := by omega
  have HSC := Lib.hid hS
  clear hn hl hS
  go_enter Tryd.func115, Tryd.ntmps115
  go_wp2
  go_loopw [3, 4] (fun d i wr => ∃ (k m : Nat), k ≤ n ∧ i = .int .i64 k ∧ d = .int .i64 m ∧ Hid (Scan xs K k m) ∧ Since w wr) (fun _ i _ => (intOf i).toNat)
  case atStart => exact ⟨n, 1, Nat.le_refl _, rfl, rfl, HSC.out, Since.refl w⟩
  case round =>
    obtain ⟨k, m, hk, rfl, rfl, HS, HW⟩ := hrel
    rcases scan_cases HS.out with ⟨rfl, rfl⟩ | ⟨j, p, hj, rfl, rfl, hok, hsc⟩
    · go_wp2
      go_ret
      exact ⟨rfl, HW⟩
    · obtain ⟨b, off, rfl, hb, c0, c1, c2, c3⟩ := HC.out j hj
      have s1 := since_cells HW hb
      rw [← s1] at c0 c1 c2 c3
      clear s1
      have hml := scan_le HS.out
      have HSC2 := Lib.hid hsc
      have har : ariT xs[j] = (opN xs[j] : Int) := by unfold ariT; rw [if_pos hok]
      have hop := opN_le xs[j]
      obtain ⟨t, ht⟩ : ∃ t, t = xs[j] := ⟨_, rfl⟩
      rw [← ht] at c0 c1 c2 c3 HSC2 har hop
      have HAR := Lib.hid har
      clear ht hok hsc HS har
      have hj0 : (0 : Int) ≤ (j : Int) := by omega
      have hjn : (j : Int) < (n : Int) := by omega
      have hp0 : (0 : Int) < (p : Int) + 1 := by omega
      go_wp2_with fail
      refine (l8Arity_any t _).mono ?_
      rintro e w1 ⟨rfl, hs1⟩
      rw [HAR.out]
      have hw1 := HW.trans hs1
      go_wp2
      go_roundw
      case rel => exact ⟨j, p + opN t, by omega, by go_num, by go_num, HSC2.out, hw1⟩
      case measure => simp [intOf]
/-- What a function answers that gives two expressions. -/
def SpOut (w : World) (xs ys : List Tok) (e : Ending) (w' : World) : Prop :=
  ∃ v u m, e = .returned (.tuple #[v, u]) ∧ OwnX w.heap.size m w' v xs ∧ OwnX m w'.heap.size w' u ys ∧ (w.heap.size ≤ m ∧ m ≤ w'.heap.size) ∧ Since w w'
theorem InR.none (lo hi : Nat) : InR lo hi (.slice none 0 0) := fun k hk => by cases hk
theorem ownX_nil (lo hi : Nat) (w : World) : OwnX lo hi w (.agg #[.slice none 0 0]) [] := ⟨_, rfl, ⟨fun x hx => by simp at hx, World.ownsRow_nil _ _ _ _⟩, InR.none _ _⟩
theorem spOut_nil {w w' : World} (hs : Since w w') : SpOut w [] [] (.returned (.tuple #[.agg #[.slice none 0 0], .agg #[.slice none 0 0]])) w' :=
  ⟨_, _, w'.heap.size, rfl, ownX_nil _ _ _, ownX_nil _ _ _, ⟨hs.size, Nat.le_refl _⟩, hs⟩
theorem OwnX.farT {lo hi X : Nat} {w : World} {v : Value} {xs : List Tok} {t : TypeId} {cs : Array Value} (h : OwnX lo hi w v xs) (hb : Blk w X t cs) (ht : t ≠ 90) (i : Nat) (u : Value) : OwnX lo hi (w.setCell ⟨X, i, none⟩ u) v xs := by
  obtain ⟨b, rfl, h1, r1⟩ := h; exact ⟨b, rfl, h1.farT hb ht i u, r1⟩
theorem OwnX.lenN {lo hi : Nat} {w : World} {v : Value} {xs : List Tok} (h : OwnX lo hi w v xs) : ∃ ao N c, Hid (N = xs.length) ∧ v = .agg #[.slice ao N c] := by
  obtain ⟨b, rfl, h1, _⟩ := h
  obtain ⟨ao, N, c, hN, rfl⟩ := h1.lenN
  exact ⟨ao, N, c, hN, rfl⟩
theorem spOut_mk {w w3 : World} {v u : Value} {xs ys : List Tok} (m : Nat) (h1 : OwnX w.heap.size m w3 v xs) (h2 : OwnX m w3.heap.size w3 u ys) (h3 : w.heap.size ≤ m ∧ m ≤ w3.heap.size) (hs : Since w w3) : SpOut w xs ys (.returned (.tuple #[v, u])) w3 := ⟨v, u, m, rfl, h1, h2, h3, hs⟩
theorem treeT_some {xs : List Tok} {T : Tr} (h : treeO xs = some T) : treeT xs = T := by unfold treeT; rw [h]; rfl
end Go.Proofs.YtblmiocjhbpklaaDoor
