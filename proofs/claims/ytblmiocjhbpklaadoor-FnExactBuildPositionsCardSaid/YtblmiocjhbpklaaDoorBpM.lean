/- Positions of a tree, as plain data: what is numbered, what follows what. No program in it. -/
import Derived.Test.YtblmiocjhbpklaaDoorEpM
import Derived.Test.YtblmiocjhbpklaaDoorPsM
namespace Go.Proofs.YtblmiocjhbpklaaDoor
set_option maxRecDepth 100000
open Go.ChangeShapes Go.WideShapes Go.ChangeAt Go.RowKit
set_option linter.unusedVariables false
set_option linter.unusedSimpArgs false

/-- How the words of a part begin and end. -/
structure Frg where
  nu : Bool
  fi : Nat
  la : Nat
/-- Every position of a is followed by those of b, below the place k. -/
def linkK (fo : List Nat) (a b k : Nat) : List Nat := fo.mapIdx fun i f => if i < k ∧ a.testBit i = true then f ||| b else f
def linkN (fo : List Nat) (a b : Nat) : List Nat := linkK fo a b fo.length
theorem linkK_len (fo : List Nat) (a b k : Nat) : (linkK fo a b k).length = fo.length := by simp [linkK]
theorem linkN_len (fo : List Nat) (a b : Nat) : (linkN fo a b).length = fo.length := linkK_len ..
theorem linkK_at (fo : List Nat) (a b k i : Nat) (h : i < fo.length) : (linkK fo a b k)[i]'(by rw [linkK_len]; exact h) = if i < k ∧ a.testBit i = true then fo[i] ||| b else fo[i] := by simp [linkK]
theorem linkK_zero (fo : List Nat) (a b : Nat) : linkK fo a b 0 = fo := by
  refine List.ext_getElem (linkK_len ..) fun i h1 h2 => ?_
  rw [linkK_at _ _ _ _ _ h2, if_neg (by omega)]
theorem linkK_no (fo : List Nat) (a b k : Nat) (h : a.testBit k = false) : linkK fo a b (k + 1) = linkK fo a b k := by
  refine List.ext_getElem (by simp [linkK_len]) fun i h1 h2 => ?_
  rw [linkK_len] at h1
  rw [linkK_at _ _ _ _ _ h1, linkK_at _ _ _ _ _ h1]
  by_cases e : i = k
  · subst e; rw [h]; simp
  · by_cases e2 : i < k
    · simp [e2, Nat.lt_succ_of_lt e2]
    · have : ¬ i < k + 1 := by omega
      simp [e2, this]
theorem linkK_yes (fo : List Nat) (a b k : Nat) (hk : k < fo.length) (h : a.testBit k = true) : (linkK fo a b k).set k (fo[k] ||| b) = linkK fo a b (k + 1) := by
  refine List.ext_getElem (by simp [linkK_len]) fun i h1 h2 => ?_
  rw [List.length_set, linkK_len] at h1
  rw [List.getElem_set, linkK_at _ _ _ (k + 1) _ h1]
  by_cases e : k = i
  · subst e; simp [h]
  · rw [if_neg e, linkK_at _ _ _ k _ h1]
    by_cases e2 : i < k
    · simp [e2, Nat.lt_succ_of_lt e2]
    · have : ¬ i < k + 1 := by omega
      simp [e2, this]
theorem linkK_same (fo : List Nat) (a b k : Nat) (hk : k < fo.length) : (linkK fo a b k)[k]'(by rw [linkK_len]; exact hk) = fo[k] := by
  rw [linkK_at _ _ _ _ _ hk, if_neg (by omega)]
theorem linkK_lt (fo : List Nat) (a b k N : Nat) (h : ∀ f ∈ fo, f < 2 ^ N) (hb : b < 2 ^ N) : ∀ f ∈ linkK fo a b k, f < 2 ^ N := by
  intro f hf
  obtain ⟨i, hi, rfl⟩ := List.getElem_of_mem hf
  rw [linkK_len] at hi
  rw [linkK_at _ _ _ _ _ hi]
  split
  · exact Nat.or_lt_two_pow (h _ (List.getElem_mem hi)) hb
  · exact h _ (List.getElem_mem hi)
def glu : Tr → List Int → List Nat → (List Int × List Nat) × Frg
  | .nil, ls, fo => ((ls, fo), ⟨false, 0, 0⟩)
  | .node t l r, ls, fo =>
    if t.kd = 2 then ((ls, fo), ⟨true, 0, 0⟩)
    else if t.kd = 3 then ((ls ++ [t.lr], fo ++ [0]), ⟨false, 2 ^ ls.length, 2 ^ ls.length⟩)
    else if t.kd = 4 then
      let a := glu l ls fo
      let b := glu r a.1.1 a.1.2
      ((b.1.1, linkN b.1.2 a.2.la b.2.fi), ⟨a.2.nu && b.2.nu, if a.2.nu then a.2.fi ||| b.2.fi else a.2.fi, if b.2.nu then a.2.la ||| b.2.la else b.2.la⟩)
    else if t.kd = 5 then
      let a := glu l ls fo
      let b := glu r a.1.1 a.1.2
      (b.1, ⟨a.2.nu || b.2.nu, a.2.fi ||| b.2.fi, a.2.la ||| b.2.la⟩)
    else if t.kd = 6 then
      let a := glu l ls fo
      ((a.1.1, linkN a.1.2 a.2.la a.2.fi), ⟨true, a.2.fi, a.2.la⟩)
    else ((ls, fo), ⟨false, 0, 0⟩)
/-- How many letters a tree has. -/
def ltrN : Tr → Nat
  | .nil => 0
  | .node t l r => (if t.kd = 3 then 1 else 0) + ltrN l + ltrN r
theorem glu_all (T : Tr) (N : Nat) : ∀ (ls : List Int) (fo : List Nat), fo.length = ls.length → (∀ f ∈ fo, f < 2 ^ N) → ls.length + ltrN T ≤ N → T = .nil ∨ T.ok →
    (glu T ls fo).1.1.length ≤ ls.length + ltrN T ∧ (glu T ls fo).1.2.length = (glu T ls fo).1.1.length ∧ (∀ f ∈ (glu T ls fo).1.2, f < 2 ^ N) ∧ (glu T ls fo).2.fi < 2 ^ N ∧ (glu T ls fo).2.la < 2 ^ N := by
  have h0 : 0 < 2 ^ N := Nat.two_pow_pos N
  induction T with
  | nil => intro ls fo h1 h2 h3 _; exact ⟨by simp [glu], h1, h2, h0, h0⟩
  | node t l r hl hr =>
    intro ls fo h1 h2 h3 hok
    have hok : (Tr.node t l r).ok := by rcases hok with e | e; (cases e); exact e
    obtain ⟨ht, hc⟩ := hok
    have hlo : l = .nil ∨ l.ok := by rcases hc with ⟨_, a, _⟩ | ⟨_, a, _⟩ | ⟨_, a, _⟩ <;> simp [a]
    have hro : r = .nil ∨ r.ok := by rcases hc with ⟨_, _, a⟩ | ⟨_, _, a⟩ | ⟨_, _, a⟩ <;> simp [a]
    unfold ltrN at h3
    have hq : ltrN (.node t l r) = (if t.kd = 3 then 1 else 0) + ltrN l + ltrN r := rfl
    rw [hq]
    unfold glu
    by_cases k2 : t.kd = 2
    · rw [if_pos k2]; exact ⟨by simp, h1, h2, h0, h0⟩
    rw [if_neg k2]
    by_cases k3 : t.kd = 3
    · rw [if_pos k3]
      rw [if_pos k3] at h3 ⊢
      refine ⟨by simp; omega, by simp [h1], fun f hf => ?_, ?_, ?_⟩
      · rcases List.mem_append.1 hf with h | h
        · exact h2 f h
        · simp at h; subst h; exact h0
      · exact Nat.pow_lt_pow_right (by decide) (by omega)
      · exact Nat.pow_lt_pow_right (by decide) (by omega)
    rw [if_neg k3]
    rw [if_neg k3] at h3 ⊢
    obtain ⟨a1, a2, a3, a4, a5⟩ := hl ls fo h1 h2 (by omega) hlo
    obtain ⟨b1, b2, b3, b4, b5⟩ := hr _ _ a2 a3 (by omega) hro
    by_cases k4 : t.kd = 4
    · rw [if_pos k4]
      refine ⟨by simp only; omega, by simp only [linkN_len]; exact b2, linkK_lt _ _ _ _ _ b3 b4, ?_, ?_⟩
      · simp only; split
        · exact Nat.or_lt_two_pow a4 b4
        · exact a4
      · simp only; split
        · exact Nat.or_lt_two_pow a5 b5
        · exact b5
    rw [if_neg k4]
    by_cases k5 : t.kd = 5
    · rw [if_pos k5]
      exact ⟨by simp only; omega, b2, b3, Nat.or_lt_two_pow a4 b4, Nat.or_lt_two_pow a5 b5⟩
    rw [if_neg k5]
    by_cases k6 : t.kd = 6
    · rw [if_pos k6]
      exact ⟨by simp only; omega, by simp only [linkN_len]; exact a2, linkK_lt _ _ _ _ _ a3 a4, a4, a5⟩
    · rw [if_neg k6]
      exact ⟨by simp only; omega, h1, h2, h0, h0⟩
/-- The letters are counted by the tokens. -/
def ltrC (xs : List Tok) : Nat := (xs.filter fun t => t.kd == 3).length
theorem ltrC_post (T : Tr) : ltrC T.post = ltrN T := by
  unfold ltrC
  induction T with
  | nil => rfl
  | node t l r hl hr =>
    simp only [Tr.post, List.filter_append, List.length_append, hl, hr, ltrN]
    by_cases h : t.kd = 3
    · simp [h]; omega
    · simp [h]
/-- What BuildPositions answers. -/
def bpB (xs : List Tok) : Bool := exB xs && decide (ltrC (exX xs) ≤ 20)
def bpP (xs : List Tok) : Psn :=
  if bpB xs = true then
    let g := glu (exT (treeT xs)) [] []
    ⟨g.1.1, (g.2.fi : Int), (g.2.la : Int), g.1.2.map fun (x : Nat) => (x : Int), g.2.nu⟩
  else ⟨[], 0, 0, [], false⟩
end Go.Proofs.YtblmiocjhbpklaaDoor
