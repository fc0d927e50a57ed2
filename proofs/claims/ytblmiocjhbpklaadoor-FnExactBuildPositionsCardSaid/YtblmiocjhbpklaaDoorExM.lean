/- Expressions as plain data: which tokens are tokens, trees, the stack on which an expression is read, operands, reversal; no program in it. -/
import Derived.Test.YtblmiocjhbpklaaDoorTok
import Derived.Test.YtblmiocjhbpklaaDoorK0
namespace Go.Proofs.YtblmiocjhbpklaaDoor
set_option maxRecDepth 100000
open Go.ChangeShapes Go.WideShapes Go.ChangeAt Go.RowKit
set_option linter.unusedVariables false
set_option linter.unusedSimpArgs false

/-- What a token may be, and how many operands it has. -/
def okT (t : Tok) : Bool :=
  (decide (t.kd = 1 ∨ t.kd = 2 ∨ t.kd = 4 ∨ t.kd = 5 ∨ t.kd = 6) && decide (t.lr = 0 ∧ t.lo = 0 ∧ t.hi = 0)) ||
  (decide (t.kd = 3) && inB t.lr 0 8 && decide (t.lo = 0 ∧ t.hi = 0)) ||
  (decide (t.kd = 7) && decide (t.lr = 0 ∧ 0 ≤ t.lo ∧ t.lo ≤ t.hi ∧ 1 ≤ t.hi ∧ t.hi ≤ 3))
def opN (t : Tok) : Nat := if t.kd = 4 ∨ t.kd = 5 then 2 else if t.kd = 6 ∨ t.kd = 7 then 1 else 0
def ariT (t : Tok) : Int := if okT t = true then (opN t : Int) else -1
theorem opN_le (t : Tok) : opN t ≤ 2 := by unfold opN; split <;> (try split) <;> omega
theorem okT_kd {t : Tok} (h : okT t = true) : 1 ≤ t.kd ∧ t.kd ≤ 7 := by
  unfold okT at h
  simp only [Bool.or_eq_true, Bool.and_eq_true, decide_eq_true_eq] at h
  omega
/-- A tree of tokens. -/
inductive Tr where
  | nil : Tr
  | node (t : Tok) (l r : Tr) : Tr
instance : Inhabited Tr := ⟨.nil⟩
def Tr.post : Tr → List Tok
  | .nil => []
  | .node t l r => l.post ++ r.post ++ [t]
/-- A tree whose nodes are tokens with as many operands as they want. -/
def Tr.ok : Tr → Prop
  | .nil => False
  | .node t l r => okT t = true ∧ ((opN t = 0 ∧ l = .nil ∧ r = .nil) ∨ (opN t = 1 ∧ l.ok ∧ r = .nil) ∨ (opN t = 2 ∧ l.ok ∧ r.ok))
def mkT (t : Tok) (l : List Tr) : Tr := .node t (l.getD 0 .nil) (l.getD 1 .nil)
def pushT (s : List Tr) (t : Tok) : Option (List Tr) :=
  if okT t = true ∧ opN t ≤ s.length then some (s.take (s.length - opN t) ++ [mkT t (s.drop (s.length - opN t))]) else none
def stk (s : List Tr) : List Tok → Option (List Tr)
  | [] => some s
  | t :: ts => (pushT s t).bind fun s' => stk s' ts
theorem stk_append (s : List Tr) (xs ys : List Tok) : stk s (xs ++ ys) = (stk s xs).bind fun s' => stk s' ys := by
  induction xs generalizing s with
  | nil => rfl
  | cons x xs ih =>
    simp only [List.cons_append, stk]
    cases pushT s x with
    | none => rfl
    | some s' => exact ih s'
theorem stk_step {xs : List Tok} {k : Nat} {s : List Tr} (hk : k < xs.length) (h : stk [] (xs.take k) = some s) : stk [] (xs.take (k + 1)) = pushT s xs[k] := by
  rw [List.take_succ_eq_append_getElem hk, stk_append, h]
  simp only [Option.bind, stk]
  cases pushT s xs[k] <;> rfl
theorem stk_stop {xs : List Tok} {k : Nat} {s : List Tr} (hk : k < xs.length) (h : stk [] (xs.take k) = some s) (hn : pushT s xs[k] = none) : stk [] xs = none := by
  have h1 := stk_step hk h
  rw [hn] at h1
  have : xs = xs.take (k + 1) ++ xs.drop (k + 1) := (List.take_append_drop _ _).symm
  rw [this, stk_append, h1]; rfl
theorem pushT_len {s s' : List Tr} {t : Tok} (h : pushT s t = some s') : okT t = true ∧ opN t ≤ s.length ∧ s'.length = s.length - opN t + 1 := by
  unfold pushT at h
  split at h
  · rename_i hc
    injection h with h
    subst h
    refine ⟨hc.1, hc.2, ?_⟩
    simp
  · cases h
theorem pushT_ok {s s' : List Tr} {t : Tok} (hs : ∀ x ∈ s, x.ok) (h : pushT s t = some s') : (∀ x ∈ s', x.ok) ∧ s'.flatMap Tr.post = s.flatMap Tr.post ++ [t] := by
  unfold pushT at h
  split at h
  · rename_i hc
    obtain ⟨hc1, hc2⟩ := hc
    injection h with h
    subst h
    have hd : s = s.take (s.length - opN t) ++ s.drop (s.length - opN t) := (List.take_append_drop _ _).symm
    have hdl : (s.drop (s.length - opN t)).length = opN t := by rw [List.length_drop]; omega
    obtain ⟨d, hdd⟩ : ∃ d, d = s.drop (s.length - opN t) := ⟨_, rfl⟩
    have hdo : ∀ x ∈ d, x.ok := fun x hx => hs x (List.mem_of_mem_drop (hdd ▸ hx))
    rw [← hdd] at hd hdl ⊢
    have hto : ∀ x ∈ s.take (s.length - opN t), x.ok := fun x hx => hs x (List.mem_of_mem_take hx)
    generalize s.take (s.length - opN t) = a at hd hto ⊢
    have hl := opN_le t
    have key : (mkT t d).ok ∧ (mkT t d).post = d.flatMap Tr.post ++ [t] := by
      match d, hdl with
      | [], hdl => exact ⟨⟨hc1, .inl ⟨by simpa using hdl.symm, rfl, rfl⟩⟩, by simp [mkT, Tr.post]⟩
      | [x], hdl => exact ⟨⟨hc1, .inr (.inl ⟨by simpa using hdl.symm, hdo x (by simp), rfl⟩)⟩, by simp [mkT, Tr.post]⟩
      | [x, y], hdl => exact ⟨⟨hc1, .inr (.inr ⟨by simpa using hdl.symm, hdo x (by simp), hdo y (by simp)⟩)⟩, by simp [mkT, Tr.post]⟩
      | x :: y :: z :: r, hdl => simp at hdl; omega
    refine ⟨fun x hx => ?_, ?_⟩
    · rcases List.mem_append.1 hx with h | h
      · exact hto x h
      · simp at h; subst h; exact key.1
    · rw [hd, List.flatMap_append, List.flatMap_append]
      simp [key.2]
  · cases h
theorem stk_ok {s s' : List Tr} {xs : List Tok} (hs : ∀ x ∈ s, x.ok) (h : stk s xs = some s') : (∀ x ∈ s', x.ok) ∧ s'.flatMap Tr.post = s.flatMap Tr.post ++ xs := by
  induction xs generalizing s with
  | nil => injection h with h; subst h; exact ⟨hs, by simp⟩
  | cons x xs ih =>
    simp only [stk] at h
    cases hp : pushT s x with
    | none => rw [hp] at h; cases h
    | some s1 =>
      rw [hp] at h
      obtain ⟨h1, h2⟩ := pushT_ok hs hp
      obtain ⟨h3, h4⟩ := ih h1 h
      exact ⟨h3, by rw [h4, h2, List.append_assoc]; rfl⟩
theorem stk_post (T : Tr) (s : List Tr) (h : T.ok) : stk s T.post = some (s ++ [T]) := by
  induction T generalizing s with
  | nil => exact h.elim
  | node t l r hl hr =>
    obtain ⟨ht, h⟩ := h
    simp only [Tr.post]
    rcases h with ⟨h0, rfl, rfl⟩ | ⟨h1, hlo, rfl⟩ | ⟨h2, hlo, hro⟩
    · simp [stk, Tr.post, pushT, ht, h0, mkT]
    · rw [stk_append, stk_append, hl s hlo]
      simp [stk, Tr.post, pushT, ht, h1, mkT, List.take_append, List.drop_append]
    · rw [stk_append, stk_append, hl s hlo]
      simp only [Option.bind]
      rw [hr _ hro]
      have e2 : s.length + 1 + 1 - 2 = s.length := by omega
      simp [stk, pushT, ht, h2, mkT, List.take_append, List.drop_append, e2]
/-- The tree of an expression. -/
def treeO (xs : List Tok) : Option Tr := match stk [] xs with
  | some [T] => some T
  | _ => none
def isXB (xs : List Tok) : Bool := (treeO xs).isSome
def validXB (xs : List Tok) : Bool := decide (xs.length ≤ 24) && isXB xs
theorem treeO_some {xs : List Tok} {T : Tr} (h : treeO xs = some T) : T.ok ∧ xs = T.post := by
  unfold treeO at h
  split at h
  · rename_i T' he
    injection h with h; subst h
    obtain ⟨h1, h2⟩ := stk_ok (s := []) (fun x hx => by simp at hx) he
    exact ⟨h1 _ (by simp), by simpa using h2.symm⟩
  · cases h
theorem treeO_post {T : Tr} (h : T.ok) : treeO T.post = some T := by
  unfold treeO
  rw [stk_post T [] h]; rfl
theorem treeO_of {xs : List Tok} {s : List Tr} (h : stk [] xs = some s) : treeO xs = if s.length = 1 then some (s.getD 0 .nil) else none := by
  unfold treeO
  rw [h]
  match s with
  | [] => rfl
  | [T] => rfl
  | a :: b :: r => simp
theorem treeO_none {xs : List Tok} (h : stk [] xs = none) : treeO xs = none := by
  unfold treeO; rw [h]
theorem isXB_of {xs : List Tok} {s : List Tr} (h : stk [] xs = some s) : isXB xs = decide (s.length = 1) := by
  unfold isXB
  rw [treeO_of h]
  by_cases hl : s.length = 1
  · rw [if_pos hl]; simp [hl]
  · rw [if_neg hl]; simp [hl]
theorem isXB_none {xs : List Tok} (h : stk [] xs = none) : isXB xs = false := by
  unfold isXB; rw [treeO_none h]; rfl
/-- The operands. -/
def partsX (xs : List Tok) : List Tok × List Tok := match treeO xs with
  | some (.node _ l r) => (l.post, r.post)
  | _ => ([], [])
def Tr.left : Tr → Tr
  | .nil => .nil
  | .node _ l _ => l
def Tr.right : Tr → Tr
  | .nil => .nil
  | .node _ _ r => r
def Tr.len : Tr → Nat
  | .nil => 0
  | .node _ l r => l.len + r.len + 1
theorem post_len (T : Tr) : T.post.length = T.len := by
  induction T with
  | nil => rfl
  | node t l r hl hr => simp [Tr.post, Tr.len, hl, hr]; omega
/-- A tree reversed. -/
def turnT (t : Tok) : Tok := if t.kd = 3 then { t with lr := invL t.lr } else t
def Tr.rev : Tr → Tr
  | .nil => .nil
  | .node t l r => if t.kd = 4 then .node (turnT t) r.rev l.rev else .node (turnT t) l.rev r.rev
theorem rev_len (T : Tr) : T.rev.len = T.len := by
  induction T with
  | nil => rfl
  | node t l r hl hr =>
    simp only [Tr.rev]
    split <;> simp only [Tr.len, hl, hr] <;> omega
def revX (xs : List Tok) : List Tok := match treeO xs with
  | some T => T.rev.post
  | none => []
theorem revX_some {xs : List Tok} {T : Tr} (h : treeO xs = some T) : revX xs = T.rev.post := by unfold revX; rw [h]
theorem revX_none {xs : List Tok} (h : treeO xs = none) : revX xs = [] := by unfold revX; rw [h]
theorem revX_len (xs : List Tok) : (revX xs).length ≤ xs.length := by
  cases h : treeO xs with
  | none => rw [revX_none h]; simp
  | some T => rw [revX_some h, post_len, rev_len, ← post_len, (treeO_some h).2]; simp
theorem partsX_some {xs : List Tok} {T : Tr} (h : treeO xs = some T) : partsX xs = (T.left.post, T.right.post) := by
  unfold partsX; rw [h]
  cases T with
  | nil => exact ((treeO_some h).1).elim
  | node t l r => rfl
theorem partsX_none {xs : List Tok} (h : treeO xs = none) : partsX xs = ([], []) := by unfold partsX; rw [h]
theorem partsX_len (xs : List Tok) : (partsX xs).1.length + (partsX xs).2.length ≤ xs.length := by
  cases h : treeO xs with
  | none => rw [partsX_none h]; simp
  | some T =>
    rw [partsX_some h, (treeO_some h).2]
    cases T <;> simp [Tr.left, Tr.right, Tr.post]
/-- Scanning backwards: from place k with m operands wanted, the scan ends at place K. -/
inductive Scan (xs : List Tok) (K : Nat) : Nat → Nat → Prop
  | done : Scan xs K K 0
  | step (k m : Nat) (hk : k < xs.length) (hok : okT xs[k] = true) (h : Scan xs K k (m + opN xs[k])) : Scan xs K (k + 1) (m + 1)
theorem scan_tree (T : Tr) (h : T.ok) (ys zs : List Tok) (K m : Nat) (hs : Scan (ys ++ T.post ++ zs) K ys.length m) : Scan (ys ++ T.post ++ zs) K (ys.length + T.post.length) (m + 1) := by
  induction T generalizing ys zs m with
  | nil => exact h.elim
  | node t l r hl hr =>
    obtain ⟨ht, h⟩ := h
    have hlen : ys.length + (Tr.node t l r).post.length = (ys.length + (l.post ++ r.post).length) + 1 := by simp only [Tr.post, List.length_append, List.length_cons, List.length_nil]; omega
    rw [hlen]
    have hk : ys.length + (l.post ++ r.post).length < (ys ++ (Tr.node t l r).post ++ zs).length := by simp only [Tr.post, List.length_append, List.length_cons, List.length_nil]; omega
    have hx : (ys ++ (Tr.node t l r).post ++ zs)[ys.length + (l.post ++ r.post).length] = t := by
      simp [Tr.post, List.getElem_append, Nat.add_assoc]
    refine .step _ _ hk (by rw [hx]; exact ht) ?_
    rw [hx]
    rcases h with ⟨h0, rfl, rfl⟩ | ⟨h1, hlo, rfl⟩ | ⟨h2, hlo, hro⟩
    · rw [h0]; simpa [Tr.post] using hs
    · rw [h1]
      have e : ys ++ (Tr.node t l .nil).post ++ zs = ys ++ l.post ++ ([t] ++ zs) := by simp [Tr.post]
      rw [e] at hs ⊢
      have := hl hlo ys ([t] ++ zs) m hs
      simpa [Tr.post] using this
    · rw [h2]
      have e : ys ++ (Tr.node t l r).post ++ zs = ys ++ l.post ++ (r.post ++ [t] ++ zs) := by simp [Tr.post]
      have e2 : ys ++ l.post ++ (r.post ++ [t] ++ zs) = (ys ++ l.post) ++ r.post ++ ([t] ++ zs) := by simp
      rw [e] at hs ⊢
      have a := hl hlo ys (r.post ++ [t] ++ zs) m hs
      rw [e2] at a ⊢
      have b := hr hro (ys ++ l.post) ([t] ++ zs) (m + 1) (by simpa using a)
      simpa [Nat.add_assoc] using b
/-- The scan over two expressions, one behind the other, ends behind the first. -/
theorem scan_two (ys : List Tok) (T : Tr) (h : T.ok) : Scan (ys ++ T.post) ys.length (ys ++ T.post).length 1 := by
  have := scan_tree T h ys [] ys.length 0 .done
  simpa using this
theorem scan_cases {xs : List Tok} {K k m : Nat} (h : Scan xs K k m) : (m = 0 ∧ k = K) ∨ (∃ (j p : Nat) (hj : j < xs.length), k = j + 1 ∧ m = p + 1 ∧ okT xs[j] = true ∧ Scan xs K j (p + opN xs[j])) := by
  cases h with
  | done => exact .inl ⟨rfl, rfl⟩
  | step j p hj hok h => exact .inr ⟨j, p, hj, rfl, rfl, hok, h⟩
end Go.Proofs.YtblmiocjhbpklaaDoor
