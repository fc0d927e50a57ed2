/- Expansions of repetitions as plain data: the tree, its size, the size's bound. No program in it. -/
import Derived.Test.YtblmiocjhbpklaaDoorL0
import Derived.Test.YtblmiocjhbpklaaDoorL1
namespace Go.Proofs.YtblmiocjhbpklaaDoor
set_option maxRecDepth 100000
open Go.ChangeShapes Go.WideShapes Go.ChangeAt Go.RowKit
set_option linter.unusedVariables false
set_option linter.unusedSimpArgs false

def leafT (k : Int) : Tr := .node (leafK k) .nil .nil
/-- A tree taken lo to h times, spelled out. -/
def timT (X : Tr) : Nat → Nat → Tr
  | 0, _ => leafT 2
  | h + 1, lo => if lo = 0 then .node (leafK 5) (.node (leafK 4) X (timT X h (lo - 1))) (leafT 2) else .node (leafK 4) X (timT X h (lo - 1))
def exT : Tr → Tr
  | .nil => .nil
  | .node t l r => if t.kd = 7 then timT (exT l) t.hi.toNat t.lo.toNat else .node t (exT l) (exT r)
/-- The bound on the expansion's size. -/
def szT : Tr → Nat
  | .nil => 0
  | .node t l r => min 100000 (if t.kd = 7 then (szT l + 3) * t.hi.toNat + 1 else szT l + szT r + 1)
theorem timT_len (X : Tr) (h lo : Nat) : (timT X h lo).len ≤ h * (X.len + 3) + 1 := by
  induction h generalizing lo with
  | zero => simp [timT, leafT, Tr.len]
  | succ h ih =>
    have := ih (lo - 1)
    rw [Nat.succ_mul]
    unfold timT
    split <;> simp only [Tr.len, leafT] <;> omega
theorem szT_le (T : Tr) : szT T ≤ 100000 := by
  cases T with
  | nil => exact Nat.zero_le _
  | node t l r => exact Nat.min_le_left _ _
theorem okT_hi {t : Tok} (h : okT t = true) (h7 : t.kd = 7) : 0 ≤ t.lo ∧ t.lo ≤ t.hi ∧ 1 ≤ t.hi ∧ t.hi ≤ 3 := by
  unfold okT at h
  simp only [Bool.or_eq_true, Bool.and_eq_true, decide_eq_true_eq] at h
  omega
/-- The parts' bounds. -/
theorem szT_parts {t : Tok} {l r : Tr} (h : okT t = true) (hs : szT (.node t l r) ≤ 5000) : szT l ≤ 5000 ∧ (t.kd ≠ 7 → szT r ≤ 5000) := by
  unfold szT at hs
  by_cases h7 : t.kd = 7
  · rw [if_pos h7] at hs
    obtain ⟨_, _, h1, _⟩ := okT_hi h h7
    have h2 : 1 ≤ t.hi.toNat := by omega
    have h3 : (szT l + 3) * 1 ≤ (szT l + 3) * t.hi.toNat := Nat.mul_le_mul_left _ h2
    exact ⟨by omega, fun e => absurd h7 e⟩
  · rw [if_neg h7] at hs
    exact ⟨by omega, fun _ => by omega⟩
theorem exT_len {T : Tr} (h : T.ok) (hs : szT T ≤ 5000) : (exT T).len ≤ szT T := by
  induction T with
  | nil => exact Nat.le_refl _
  | node t l r hl hr =>
    obtain ⟨ht, hc⟩ := h
    obtain ⟨s1, s2⟩ := szT_parts ht hs
    have hlo : l = .nil ∨ l.ok := by rcases hc with ⟨_, a, _⟩ | ⟨_, a, _⟩ | ⟨_, a, _⟩ <;> simp [a]
    have hro : r = .nil ∨ r.ok := by rcases hc with ⟨_, _, a⟩ | ⟨_, _, a⟩ | ⟨_, _, a⟩ <;> simp [a]
    have h1 : (exT l).len ≤ szT l := by
      rcases hlo with rfl | a
      · exact Nat.le_refl _
      · exact hl a s1
    by_cases h7 : t.kd = 7
    · unfold exT szT
      unfold szT at hs
      rw [if_pos h7] at hs ⊢
      rw [if_pos h7]
      have h2 := timT_len (exT l) t.hi.toNat t.lo.toNat
      have h3 : t.hi.toNat * ((exT l).len + 3) ≤ t.hi.toNat * (szT l + 3) := Nat.mul_le_mul_left _ (by omega)
      rw [Nat.mul_comm (szT l + 3)] at hs ⊢
      omega
    · have h2 : (exT r).len ≤ szT r := by
        rcases hro with rfl | a
        · exact Nat.le_refl _
        · exact hr a (s2 h7)
      unfold exT szT
      unfold szT at hs
      rw [if_neg h7] at hs ⊢
      rw [if_neg h7]
      simp only [Tr.len]
      omega
theorem leafT_ok {k : Int} (h : k = 1 ∨ k = 2) : (leafT k).ok := by
  rcases h with rfl | rfl <;> exact ⟨by decide, .inl ⟨by decide, rfl, rfl⟩⟩
theorem timT_ok {X : Tr} (h : X.ok) (n lo : Nat) : (timT X n lo).ok := by
  induction n generalizing lo with
  | zero => exact leafT_ok (.inr rfl)
  | succ n ih =>
    have h4 : (Tr.node (leafK 4) X (timT X n (lo - 1))).ok := ⟨by decide, .inr (.inr ⟨by decide, h, ih _⟩)⟩
    unfold timT
    split
    · exact ⟨by decide, .inr (.inr ⟨by decide, h4, leafT_ok (.inr rfl)⟩)⟩
    · exact h4
theorem exT_ok {T : Tr} (h : T.ok) : (exT T).ok := by
  induction T with
  | nil => exact h.elim
  | node t l r hl hr =>
    obtain ⟨ht, hc⟩ := h
    unfold exT
    rcases hc with ⟨h0, rfl, rfl⟩ | ⟨h1, a, rfl⟩ | ⟨h2, a, b⟩
    · rw [if_neg (by intro e; unfold opN at h0; rw [if_neg (by omega), if_pos (by omega)] at h0; omega)]
      exact ⟨ht, .inl ⟨h0, rfl, rfl⟩⟩
    · split
      · exact timT_ok (hl a) _ _
      · exact ⟨ht, .inr (.inl ⟨h1, hl a, rfl⟩)⟩
    · rw [if_neg (by intro e; unfold opN at h2; rw [if_neg (by omega), if_pos (by omega)] at h2; omega)]
      exact ⟨ht, .inr (.inr ⟨h2, hl a, hr b⟩)⟩
theorem exT_pos {T : Tr} (h : T.ok) : 0 < (exT T).len := by
  have := exT_ok h
  cases e : exT T with
  | nil => rw [e] at this; exact this.elim
  | node t l r => simp [Tr.len]
/-- No repetition is left. -/
def noRep : Tr → Prop
  | .nil => True
  | .node t l r => t.kd ≠ 7 ∧ noRep l ∧ noRep r
theorem timT_no {X : Tr} (h : noRep X) (n lo : Nat) : noRep (timT X n lo) := by
  induction n generalizing lo with
  | zero => exact ⟨by decide, trivial, trivial⟩
  | succ n ih =>
    unfold timT
    split
    · exact ⟨by decide, ⟨by decide, h, ih _⟩, ⟨by decide, trivial, trivial⟩⟩
    · exact ⟨by decide, h, ih _⟩
theorem exT_no (T : Tr) : noRep (exT T) := by
  induction T with
  | nil => trivial
  | node t l r hl hr =>
    unfold exT
    split
    · exact timT_no hl _ _
    · rename_i h; exact ⟨h, hl, hr⟩
def exB (xs : List Tok) : Bool := validXB xs && (decide (szT (treeT xs) ≤ 5000) && decide ((exT (treeT xs)).post.length ≤ 400))
def exX (xs : List Tok) : List Tok := if exB xs = true then (exT (treeT xs)).post else []
theorem exX_len (xs : List Tok) : (exX xs).length ≤ 400 := by
  unfold exX
  split
  · rename_i h
    unfold exB at h
    simp only [Bool.and_eq_true, decide_eq_true_eq] at h
    exact h.2.2
  · exact Nat.zero_le _
end Go.Proofs.YtblmiocjhbpklaaDoor
