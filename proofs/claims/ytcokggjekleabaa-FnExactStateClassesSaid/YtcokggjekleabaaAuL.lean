/- Closed sets of states: what sweeps over states and letters find. -/
import Derived.Test.YtcokggjekleabaaAuM
namespace Go.Proofs.Ytcokggjekleabaa
set_option maxRecDepth 100000
set_option linter.unusedVariables false
set_option linter.unusedSimpArgs false

def at0 (b : List Bool) (s : Nat) : Bool := b[s]?.getD false
theorem at0_get (b : List Bool) (s : Nat) (h : s < b.length) : at0 b s = b[s] := by simp [at0, h]
theorem at0_out (b : List Bool) (s : Nat) (h : ¬ s < b.length) : at0 b s = false := by unfold at0; rw [List.getElem?_eq_none (by omega)]; rfl
theorem at0_lt {b : List Bool} {s : Nat} (h : at0 b s = true) : s < b.length := by
  refine Decidable.byContradiction fun k => ?_
  rw [at0_out b s k] at h; cases h
theorem at0_set (b : List Bool) (s t : Nat) (hs : s < b.length) : at0 (b.set s true) t = if t = s then true else at0 b t := by
  unfold at0
  by_cases e : t = s
  · subst e; rw [List.getElem?_set_self hs, if_pos rfl]; rfl
  · rw [List.getElem?_set_ne (fun k => e k.symm), if_neg e]
theorem set_same (b : List Bool) (s : Nat) (h : at0 b s = true) : b.set s true = b := by
  have hs := at0_lt h
  rw [at0_get b s hs] at h
  rw [← h, List.set_getElem_self]
def cntT : List Bool → Nat
  | [] => 0
  | x :: xs => (if x = true then 1 else 0) + cntT xs
theorem cntT_le : ∀ b : List Bool, cntT b ≤ b.length
  | [] => Nat.le_refl _
  | x :: xs => by have := cntT_le xs; simp only [cntT, List.length_cons]; split <;> omega
theorem cntT_all : ∀ b : List Bool, b.length ≤ cntT b → ∀ s, s < b.length → at0 b s = true
  | [], _, s, h => by simp at h
  | x :: xs, hl, s, h => by
    have h1 := cntT_le xs
    simp only [cntT, List.length_cons] at hl h
    have hx : x = true := by
      cases x with
      | true => rfl
      | false => simp at hl; omega
    subst hx
    simp only [if_true] at hl
    cases s with
    | zero => rfl
    | succ s => exact cntT_all xs (by omega) s (by omega)
theorem cntT_set : ∀ (b : List Bool) (s : Nat), s < b.length → at0 b s = false → cntT (b.set s true) = cntT b + 1
  | [], s, h, _ => by simp at h
  | x :: xs, 0, _, h => by
    have : x = false := h
    subst this
    simp [cntT]; omega
  | x :: xs, s + 1, hs, h => by
    have := cntT_set xs s (by simpa using hs) h
    simp only [List.set_cons_succ, cntT, this]; omega
/-- if the one holds, so does the other. -/
abbrev Rule := Nat → Nat → Option (Nat × Nat)
def okAt (R : Rule) (b : List Bool) (s k : Nat) : Prop := ∀ x y, R s k = some (x, y) → at0 b x = true → at0 b y = true
def ClosedR (R : Rule) (n : Nat) (b : List Bool) : Prop := ∀ s k, s < n → k < 9 → okAt R b s k
/-- What a sweep has done up to a state and a letter. -/
def Swept (R : Rule) (n : Nat) (b0 b : List Bool) (s k : Nat) : Prop :=
  (b = b0 ∧ ∀ s' k', k' < 9 → (s' < s ∨ (s' = s ∧ k' < k)) → okAt R b0 s' k') ∨ (cntT b0 < cntT b ∧ ¬ ClosedR R n b0)
theorem Swept.start (R : Rule) (n : Nat) (b : List Bool) : Swept R n b b 0 0 := .inl ⟨rfl, fun s k _ h => by omega⟩
theorem Swept.skip {R : Rule} {n : Nat} {b0 b : List Bool} {s k : Nat} (h : Swept R n b0 b s k) (ho : okAt R b s k) : Swept R n b0 b s (k + 1) := by
  rcases h with ⟨rfl, h⟩ | h
  · refine .inl ⟨rfl, fun s' k' hk hs => ?_⟩
    by_cases e : s' = s ∧ k' = k
    · rw [e.1, e.2]; exact ho
    · exact h s' k' hk (by omega)
  · exact .inr h
theorem Swept.row {R : Rule} {n : Nat} {b0 b : List Bool} {s : Nat} (h : Swept R n b0 b s 9) : Swept R n b0 b (s + 1) 0 := by
  rcases h with ⟨rfl, h⟩ | h
  · exact .inl ⟨rfl, fun s' k' hk hs => h s' k' hk (by omega)⟩
  · exact .inr h
theorem Swept.turn {R : Rule} {n : Nat} {b0 b : List Bool} {s k x y : Nat} (h : Swept R n b0 b s k) (hs : s < n) (hk : k < 9) (hR : R s k = some (x, y)) (hx : at0 b x = true) (hy : y < b.length) :
    Swept R n b0 (b.set y true) s (k + 1) := by
  cases e : at0 b y with
  | true =>
    rw [set_same b y e]
    refine h.skip fun x' y' h' hx' => ?_
    rw [hR] at h'
    injection h' with h'
    injection h' with h1 h2
    rw [← h2]; exact e
  | false =>
    have hc := cntT_set b y hy e
    rcases h with ⟨rfl, h⟩ | ⟨h1, h2⟩
    · refine .inr ⟨by omega, fun hcl => ?_⟩
      have := hcl s k hs hk x y hR hx
      rw [e] at this; cases this
    · exact .inr ⟨by omega, h2⟩
/-- What r sweeps have done. -/
def Rnd (R : Rule) (n r : Nat) (b : List Bool) : Prop := ClosedR R n b ∨ r ≤ cntT b
theorem Swept.round {R : Rule} {n r : Nat} {b0 b : List Bool} (h : Swept R n b0 b n 0) (hr : Rnd R n r b0) : Rnd R n (r + 1) b := by
  rcases h with ⟨rfl, h⟩ | ⟨h1, h2⟩
  · exact .inl fun s k hs hk => h s k hk (.inl hs)
  · rcases hr with hr | hr
    · exact absurd hr h2
    · exact .inr (by omega)
theorem Rnd.closed {R : Rule} {n : Nat} {b : List Bool} (h : Rnd R n n b) (hl : b.length = n) (hy : ∀ s k x y, R s k = some (x, y) → y < n) : ClosedR R n b := by
  rcases h with h | h
  · exact h
  · intro s k hs hk x y hR _
    exact cntT_all b (by omega) y (by have := hy s k x y hR; omega)
/-- The least set that holds the states of B0 and is closed. -/
def LeastP (R : Rule) (n : Nat) (B0 : List Bool) (s : Nat) : Prop := ∀ b : List Bool, b.length = n → (∀ s, at0 B0 s = true → at0 b s = true) → ClosedR R n b → at0 b s = true
theorem LeastP.step {R : Rule} {n : Nat} {B0 : List Bool} {s k x y : Nat} (hs : s < n) (hk : k < 9) (hR : R s k = some (x, y)) (h : LeastP R n B0 x) : LeastP R n B0 y :=
  fun b hl hb hc => hc s k hs hk x y hR (h b hl hb hc)
theorem LeastP.base {R : Rule} {n : Nat} {B0 : List Bool} {s : Nat} (h : at0 B0 s = true) : LeastP R n B0 s := fun b hl hb hc => hb s h
/-- a predicate as a list. -/
def boL (f : Nat → Bool) (n : Nat) : List Bool := (List.range n).map f
theorem boL_length (f : Nat → Bool) (n : Nat) : (boL f n).length = n := by simp [boL]
theorem boL_at (f : Nat → Bool) (n s : Nat) (h : s < n) : at0 (boL f n) s = f s := by simp [at0, boL, h]
theorem boL_get (f : Nat → Bool) (n s : Nat) (h : s < n) : (boL f n)[s]'(by rw [boL_length]; exact h) = f s := by simp [boL]
theorem pred_bool (P : Nat → Prop) : ∃ f : Nat → Bool, ∀ s, f s = true ↔ P s := ⟨fun s => @decide (P s) (Classical.propDecidable _), fun s => @decide_eq_true_iff _ (Classical.propDecidable _)⟩
theorem LeastP.ind {R : Rule} {n : Nat} {B0 : List Bool} {Q : Nat → Prop} (hB : B0.length ≤ n) (hy : ∀ s k x y, R s k = some (x, y) → x < n ∧ y < n) (h0 : ∀ s, at0 B0 s = true → Q s) (h1 : ∀ s k x y, s < n → k < 9 → R s k = some (x, y) → Q x → Q y) {s : Nat} (hs : s < n) (h : LeastP R n B0 s) : Q s := by
  obtain ⟨f, hf⟩ := pred_bool Q
  have := h (boL f n) (boL_length f n) (fun t ht => by
    have hl := at0_lt ht
    rw [boL_at f n t (by omega)]; exact (hf t).2 (h0 t ht)) (fun t k ht hk x y hR hx => by
      obtain ⟨hx1, hy1⟩ := hy t k x y hR
      rw [boL_at f n x hx1] at hx
      rw [boL_at f n y hy1]
      exact (hf y).2 (h1 t k x y ht hk hR ((hf x).1 hx)))
  rw [boL_at f n s hs] at this
  exact (hf s).1 this
/-- A sound, closed list is that set. -/
theorem least_eq {R : Rule} {n : Nat} {B0 b : List Bool} {f : Nat → Bool} (hf : ∀ s, f s = true ↔ LeastP R n B0 s) (hl : b.length = n) (hb : ∀ s, at0 B0 s = true → at0 b s = true) (hs : ∀ s, at0 b s = true → LeastP R n B0 s) (hc : ClosedR R n b) : b = boL f n := by
  apply List.ext_getElem
  · rw [boL_length, hl]
  · intro s h1 h2
    rw [boL_get f n s (by omega), ← at0_get b s h1, Bool.eq_iff_iff, hf]
    exact ⟨hs s, fun h => h b hl hb hc⟩
/-- What sweeps keep. -/
structure SwpI (R : Rule) (n : Nat) (B0 b : List Bool) : Prop where
  len : b.length = n
  base : ∀ s, at0 B0 s = true → at0 b s = true
  sound : ∀ s, at0 b s = true → LeastP R n B0 s
theorem SwpI.turn {R : Rule} {n : Nat} {B0 b : List Bool} (h : SwpI R n B0 b) {s k x y : Nat} (hs : s < n) (hk : k < 9) (hR : R s k = some (x, y)) (hx : at0 b x = true) (hy : y < n) : SwpI R n B0 (b.set y true) := by
  refine ⟨by rw [List.length_set]; exact h.len, fun t ht => ?_, fun t ht => ?_⟩
  · rw [at0_set b y t (by rw [h.len]; exact hy)]
    split
    · rfl
    · exact h.base t ht
  · rw [at0_set b y t (by rw [h.len]; exact hy)] at ht
    split at ht
    · rename_i e
      rw [e]; exact (h.sound x hx).step hs hk hR
    · exact h.sound t ht
theorem SwpI.done {R : Rule} {n : Nat} {B0 b : List Bool} (h : SwpI R n B0 b) {f : Nat → Bool} (hf : ∀ s, f s = true ↔ LeastP R n B0 s) (hc : ClosedR R n b) : b = boL f n := least_eq hf h.len h.base h.sound hc
/-! the two rules of an automaton -/
def tgt (A : Aut) (s k : Nat) : Option Nat := if s < A.ac.length ∧ 0 ≤ nextA A.nx s k ∧ nextA A.nx s k < (A.ac.length : Int) then some (nextA A.nx s k).toNat else none
theorem tgt_some {A : Aut} {s k t : Nat} (hs : s < A.ac.length) (h : nextA A.nx s k = (t : Int)) (ht : t < A.ac.length) : tgt A s k = some t := by
  unfold tgt; rw [if_pos ⟨hs, by omega, by omega⟩, h]; rfl
theorem tgt_none {A : Aut} {s k : Nat} (h : nextA A.nx s k < 0) : tgt A s k = none := by
  unfold tgt; rw [if_neg (by omega)]
theorem tgt_lt {A : Aut} {s k t : Nat} (h : tgt A s k = some t) : s < A.ac.length ∧ t < A.ac.length ∧ nextA A.nx s k = (t : Int) := by
  unfold tgt at h
  split at h
  · rename_i e
    injection h with h
    omega
  · cases h
def liveR (A : Aut) : Rule := fun s k => (tgt A s k).map fun t => (t, s)
def rchR (A : Aut) : Rule := fun s k => (tgt A s k).map fun t => (s, t)
theorem liveR_of {A : Aut} {s k t : Nat} (h : tgt A s k = some t) : liveR A s k = some (t, s) := by unfold liveR; rw [h]; rfl
theorem rchR_of {A : Aut} {s k t : Nat} (h : tgt A s k = some t) : rchR A s k = some (s, t) := by unfold rchR; rw [h]; rfl
theorem liveR_inv {A : Aut} {s k x y : Nat} (h : liveR A s k = some (x, y)) : tgt A s k = some x ∧ y = s := by
  unfold liveR at h
  cases e : tgt A s k with
  | none => rw [e] at h; cases h
  | some t => rw [e] at h; injection h with h; injection h with h1 h2; exact ⟨by rw [h1], h2.symm⟩
theorem rchR_inv {A : Aut} {s k x y : Nat} (h : rchR A s k = some (x, y)) : tgt A s k = some y ∧ x = s := by
  unfold rchR at h
  cases e : tgt A s k with
  | none => rw [e] at h; cases h
  | some t => rw [e] at h; injection h with h; injection h with h1 h2; exact ⟨by rw [h2], h1.symm⟩
theorem liveR_lt {A : Aut} (s k x y : Nat) (h : liveR A s k = some (x, y)) : x < A.ac.length ∧ y < A.ac.length := by
  obtain ⟨h1, rfl⟩ := liveR_inv h
  exact ⟨(tgt_lt h1).2.1, (tgt_lt h1).1⟩
theorem rchR_lt {A : Aut} (s k x y : Nat) (h : rchR A s k = some (x, y)) : x < A.ac.length ∧ y < A.ac.length := by
  obtain ⟨h1, rfl⟩ := rchR_inv h
  exact ⟨(tgt_lt h1).1, (tgt_lt h1).2.1⟩
def startL (A : Aut) : List Bool := (List.replicate A.ac.length false).set A.st.toNat true
def LiveP (A : Aut) : Nat → Prop := LeastP (liveR A) A.ac.length A.ac
def RchP (A : Aut) : Nat → Prop := LeastP (rchR A) A.ac.length (startL A)
theorem startL_length (A : Aut) : (startL A).length = A.ac.length := by simp [startL]
theorem startL_at {A : Aut} (h : A.st.toNat < A.ac.length) (s : Nat) : at0 (startL A) s = decide (s = A.st.toNat) := by
  unfold startL
  rw [at0_set _ _ _ (by simpa using h)]
  by_cases e : s = A.st.toNat
  · rw [if_pos e]; simp [e]
  · rw [if_neg e]
    have : at0 (List.replicate A.ac.length false) s = false := by
      unfold at0
      by_cases k : s < A.ac.length
      · simp [k]
      · rw [List.getElem?_eq_none (by simpa using k)]; rfl
    rw [this]; simp [e]
end Go.Proofs.Ytcokggjekleabaa
