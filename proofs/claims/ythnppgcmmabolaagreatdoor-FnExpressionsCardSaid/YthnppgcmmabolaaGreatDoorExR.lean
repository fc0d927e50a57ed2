/- Expressions, what the great law asks: what is formatted reads back; operands are expressions; reversal undoes itself. No program in it. -/
import Derived.Test.YthnppgcmmabolaaGreatDoorPxM
namespace Go.Proofs.YthnppgcmmabolaaGreatDoor
set_option maxRecDepth 100000
open Go.ChangeShapes Go.WideShapes Go.ChangeAt Go.RowKit
set_option linter.unusedVariables false
set_option linter.unusedSimpArgs false

def okToks : List Tok := [⟨1, 0, 0, 0⟩, ⟨2, 0, 0, 0⟩, ⟨4, 0, 0, 0⟩, ⟨5, 0, 0, 0⟩, ⟨6, 0, 0, 0⟩, ⟨3, 0, 0, 0⟩, ⟨3, 1, 0, 0⟩, ⟨3, 2, 0, 0⟩, ⟨3, 3, 0, 0⟩, ⟨3, 4, 0, 0⟩, ⟨3, 5, 0, 0⟩, ⟨3, 6, 0, 0⟩, ⟨3, 7, 0, 0⟩, ⟨3, 8, 0, 0⟩,
  ⟨7, 0, 0, 1⟩, ⟨7, 0, 1, 1⟩, ⟨7, 0, 0, 2⟩, ⟨7, 0, 1, 2⟩, ⟨7, 0, 2, 2⟩, ⟨7, 0, 0, 3⟩, ⟨7, 0, 1, 3⟩, ⟨7, 0, 2, 3⟩, ⟨7, 0, 3, 3⟩]
theorem okT_mem {t : Tok} (h : okT t = true) : t ∈ okToks := by
  obtain ⟨kd, lr, lo, hi⟩ := t
  unfold okT at h
  simp only [Bool.or_eq_true, Bool.and_eq_true, decide_eq_true_eq] at h
  rcases h with (⟨hk, h1, h2, h3⟩ | ⟨⟨hk, hb⟩, h1, h2⟩) | ⟨hk, h1, h2, h3, h4, h5⟩
  · subst h1; subst h2; subst h3
    rcases hk with rfl | rfl | rfl | rfl | rfl <;> decide
  · subst hk; subst h1; subst h2
    obtain ⟨k, hk, rfl⟩ := inB_nat hb
    rcases nine hk with rfl | rfl | rfl | rfl | rfl | rfl | rfl | rfl | rfl <;> decide
  · subst hk; subst h1
    rcases (by omega : (lo = 0 ∧ hi = 1) ∨ (lo = 1 ∧ hi = 1) ∨ (lo = 0 ∧ hi = 2) ∨ (lo = 1 ∧ hi = 2) ∨ (lo = 2 ∧ hi = 2) ∨ (lo = 0 ∧ hi = 3) ∨ (lo = 1 ∧ hi = 3) ∨ (lo = 2 ∧ hi = 3) ∨ (lo = 3 ∧ hi = 3)) with ⟨rfl, rfl⟩ | ⟨rfl, rfl⟩ | ⟨rfl, rfl⟩ | ⟨rfl, rfl⟩ | ⟨rfl, rfl⟩ | ⟨rfl, rfl⟩ | ⟨rfl, rfl⟩ | ⟨rfl, rfl⟩ | ⟨rfl, rfl⟩ <;> decide
theorem toks_read : ∀ t ∈ okToks, rdL (fmtT t).data.toList = t ∧ (32 : UInt8) ∉ (fmtT t).data.toList := by decide +kernel
theorem toks_turn : ∀ t ∈ okToks, turnT (turnT t) = t ∧ okT (turnT t) = true ∧ opN (turnT t) = opN t ∧ (turnT t).kd = t.kd := by decide +kernel
theorem tok_read {t : Tok} (h : okT t = true) : rdL (fmtT t).data.toList = t ∧ (32 : UInt8) ∉ (fmtT t).data.toList := toks_read t (okT_mem h)
theorem tok_turn {t : Tok} (h : okT t = true) : turnT (turnT t) = t ∧ okT (turnT t) = true ∧ opN (turnT t) = opN t ∧ (turnT t).kd = t.kd := toks_turn t (okT_mem h)
theorem cut_joined (ps : List (List UInt8)) (h0 : ps ≠ []) (h : ∀ p ∈ ps, (32 : UInt8) ∉ p) : cutL (Lib.join ps [32]) = ps := by
  induction ps with
  | nil => exact absurd rfl h0
  | cons p r ih =>
    cases r with
    | nil => rw [Lib.join_one]; exact cutL_none (h p (by simp))
    | cons q r =>
      have e : Lib.join (p :: q :: r) [32] = p ++ 32 :: Lib.join (q :: r) [32] := by
        rw [Lib.join_cons, Lib.join_cons]; simp [Lib.joinTail]
      rw [e, cutL_app _ (h p (by simp)), ih (by simp) (fun x hx => h x (by simp at hx ⊢; exact .inr hx))]
theorem px_valid {e : List Tok} (h : validXB e = true) : pxL (fmtX e) = e := by
  obtain ⟨h1, h2, h3⟩ := valid_all h
  rw [fmtX_in h]
  unfold pxL
  have e1 : (⟨(fmtXL e).toArray⟩ : ByteArray).data.toList = fmtXL e := by simp
  rw [e1]
  unfold fmtXL
  rw [cut_joined _ (by intro h; rw [List.map_eq_nil_iff] at h; rw [h] at h2; simp at h2) (by
    intro p hp
    obtain ⟨t, ht, rfl⟩ := List.mem_map.1 hp
    exact (tok_read (h3 t ht)).2)]
  rw [List.take_of_length_le (by rw [List.length_map]; omega), List.map_map]
  conv => rhs; rw [← List.map_id e]
  exact List.map_congr_left fun t ht => (tok_read (h3 t ht)).1
theorem px_none : pxB ⟨#[]⟩ = false := by decide +kernel
/-- What is formatted reads back, if and only if it is valid. -/
theorem px_fmt (e : List Tok) : pxB (fmtX e) = validXB e ∧ (validXB e = true → pxA (fmtX e) = e) := by
  cases h : validXB e with
  | true =>
    have e1 : pxB (fmtX e) = true := by unfold pxB; rw [px_valid h, h]
    exact ⟨e1, fun _ => by unfold pxA; rw [if_pos e1, px_valid h]⟩
  | false => exact ⟨by rw [fmtX_out h, px_none], fun h => by cases h⟩
theorem parts_ok (e : List Tok) : (0 < (partsX e).1.length → isXB (partsX e).1 = true) ∧ (0 < (partsX e).2.length → isXB (partsX e).2 = true) := by
  have key : ∀ T : Tr, T.ok → isXB T.post = true := fun T h => by unfold isXB; rw [treeO_post h]; rfl
  cases h : treeO e with
  | none => rw [partsX_none h]; simp
  | some T =>
    obtain ⟨ho, _⟩ := treeO_some h
    rw [partsX_some h]
    cases T with
    | nil => exact ho.elim
    | node t l r =>
      rcases ho.2 with ⟨_, rfl, rfl⟩ | ⟨_, hl, rfl⟩ | ⟨_, hl, hr⟩
      · simp [Tr.left, Tr.right, Tr.post]
      · exact ⟨fun _ => key l hl, by simp [Tr.right, Tr.post]⟩
      · exact ⟨fun _ => key l hl, fun _ => key r hr⟩
theorem rev_ok {T : Tr} (h : T.ok) : T.rev.ok ∧ T.rev.rev = T := by
  induction T with
  | nil => exact h.elim
  | node t l r hl hr =>
    obtain ⟨ht, h⟩ := h
    obtain ⟨t1, t2, t3, t4⟩ := tok_turn ht
    by_cases h4 : t.kd = 4
    · have h2 : opN t = 2 := by unfold opN; rw [if_pos (.inl h4)]
      rcases h with ⟨h0, _⟩ | ⟨h1, _⟩ | ⟨_, hlo, hro⟩
      · omega
      · omega
      · obtain ⟨a1, a2⟩ := hl hlo
        obtain ⟨b1, b2⟩ := hr hro
        refine ⟨?_, ?_⟩
        · simp only [Tr.rev]; rw [if_pos h4]; exact ⟨t2, .inr (.inr ⟨by rw [t3]; exact h2, b1, a1⟩)⟩
        · simp only [Tr.rev]; rw [if_pos h4]; simp only [Tr.rev]; rw [t4, if_pos h4, t1, a2, b2]
    · have e : (Tr.node t l r).rev = .node (turnT t) l.rev r.rev := by simp only [Tr.rev]; rw [if_neg h4]
      rw [e]
      have e2 : (Tr.node (turnT t) l.rev r.rev).rev = .node t l.rev.rev r.rev.rev := by simp only [Tr.rev]; rw [t4, if_neg h4, t1]
      rw [e2]
      rcases h with ⟨h0, rfl, rfl⟩ | ⟨h1, hlo, rfl⟩ | ⟨h2, hlo, hro⟩
      · exact ⟨⟨t2, .inl ⟨by rw [t3]; exact h0, rfl, rfl⟩⟩, rfl⟩
      · obtain ⟨a1, a2⟩ := hl hlo
        exact ⟨⟨t2, .inr (.inl ⟨by rw [t3]; exact h1, a1, rfl⟩)⟩, by rw [a2]; rfl⟩
      · obtain ⟨a1, a2⟩ := hl hlo
        obtain ⟨b1, b2⟩ := hr hro
        exact ⟨⟨t2, .inr (.inr ⟨by rw [t3]; exact h2, a1, b1⟩)⟩, by rw [a2, b2]⟩
/-- Reversal undoes itself. -/
theorem revX_revX {e : List Tok} (h : isXB e = true) : isXB (revX e) = true ∧ revX (revX e) = e := by
  unfold isXB at h
  cases ht : treeO e with
  | none => rw [ht] at h; cases h
  | some T =>
    obtain ⟨ho, he⟩ := treeO_some ht
    obtain ⟨r1, r2⟩ := rev_ok ho
    rw [revX_some ht]
    refine ⟨by unfold isXB; rw [treeO_post r1]; rfl, ?_⟩
    rw [revX_some (treeO_post r1), r2, he]
end Go.Proofs.YthnppgcmmabolaaGreatDoor
