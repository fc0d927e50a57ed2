/- The search over two automata: the least word that the second accepts and the first does not (or, unless only is asked, the other way round). Plain data. -/
import Derived.Test.YtmaagihfjldgeaaShM
import Derived.Test.YtmaagihfjldgeaaLwD
namespace Go.Proofs.Ytmaagihfjldgeaa
set_option maxRecDepth 100000
set_option linter.unusedVariables false
set_option linter.unusedSimpArgs false

def accW (only : Bool) (x y : Bool) : Bool := (y && !x) || (x && !y && !only)
theorem accP_T (only : Bool) (A B : Aut) : accP only A B = accT (accW only) A B := rfl
/-- What l12Differ answers from the starts s and t. -/
def sdR (only : Bool) (A B : Aut) (s t : Int) : Option (List Int) := (lwRun (prS A B) (accP only A B) (pairN A B + 1) 0 [([s, t], [])]).getD none
theorem sdR_spec {A B : Aut} (only : Bool) (ha : ValidA A) (hb : ValidA B) {s t : Int} (hs : InQ A s) (ht : InQ B t) : lwRun (prS A B) (accP only A B) (pairN A B + 1) 0 [([s, t], [])] = some (sdR only A B s t) := by
  obtain ⟨r, hr⟩ := lwRun_some (acc := accP only A B) (prS_H ha hb) (pairN A B + 1) 0 [([s, t], ([] : List Int))] (LwI.start ⟨s, t, rfl, hs, ht⟩) (by omega) (by simp)
  unfold sdR
  rw [hr]; rfl
theorem sdR_len {A B : Aut} (only : Bool) (ha : ValidA A) (hb : ValidA B) {s t : Int} (hs : InQ A s) (ht : InQ B t) : ((sdR only A B s t).getD []).length ≤ 1002001 := by
  cases h : sdR only A B s t with
  | none => simp
  | some ws =>
    have h1 := sdR_spec only ha hb hs ht
    rw [h] at h1
    have h2 := lwRun_len (prS_H ha hb) _ _ _ _ (LwI.start ⟨s, t, rfl, hs, ht⟩) h1
    have h3 := pairN_le ha hb
    show ws.length ≤ _
    omega
theorem sdR_none {A B : Aut} {only : Bool} (ha : ValidA A) (hb : ValidA B) {s t : Int} (hs : InQ A s) (ht : InQ B t) (h : sdR only A B s t = none) (w : List Int) (hw : LetW w) : accW only (acS A s w) (acS B t w) = false := by
  have h1 := sdR_spec only ha hb hs ht
  rw [h] at h1
  have h2 := lwRun_no h1 w hw
  rw [accP_T, prS_acc] at h2
  exact h2
theorem sdR_some {A B : Aut} {only : Bool} (ha : ValidA A) (hb : ValidA B) {s t : Int} (hs : InQ A s) (ht : InQ B t) {w : List Int} (h : sdR only A B s t = some w) : LetW w ∧ accW only (acS A s w) (acS B t w) = true ∧ ∀ u, LetW u → accW only (acS A s u) (acS B t u) = true → leW w u := by
  have h1 := sdR_spec only ha hb hs ht
  rw [h] at h1
  obtain ⟨h2, h3, h4⟩ := lwRun_least _ 0 _ w (BInv.begin (prS A B) [s, t]) (fun i hi k => by omega) h1
  rw [accP_T, prS_acc] at h3
  refine ⟨h2, h3, fun u hu hua => h4 u hu ?_⟩
  rw [accP_T, prS_acc]; exact hua
/-- Any other search for the same words answers alike. -/
theorem sdR_alike {A B : Aut} {only : Bool} (ha : ValidA A) (hb : ValidA B) {s t : Int} (hs : InQ A s) (ht : InQ B t) {α : Type} [DecidableEq α] {sX : α → Nat → Option α} {aX : α → Bool} {x0 : α} (h : ∀ w, LetW w → acO sX aX x0 w = accW only (acS A s w) (acS B t w)) {m : Nat} {r : Option (List Int)} (hr : lwRun sX aX m 0 [(x0, [])] = some r) : r = sdR only A B s t := by
  refine lwRun_alike (fun w hw => ?_) hr (sdR_spec only ha hb hs ht)
  rw [h w hw, accP_T, prS_acc]
/-- The first includes the second just where no word is missing. -/
theorem sdR_incl {A B : Aut} (ha : ValidA A) (hb : ValidA B) {s t : Int} (hs : InQ A s) (ht : InQ B t) : sdR true A B s t = none ↔ ∀ w, LetW w → acS B t w = true → acS A s w = true := by
  constructor
  · intro h w hw hbw
    have := sdR_none ha hb hs ht h w hw
    unfold accW at this
    rw [hbw] at this
    cases e : acS A s w with
    | true => rfl
    | false => rw [e] at this; simp at this
  · intro h
    cases e : sdR true A B s t with
    | none => rfl
    | some w =>
      obtain ⟨hw, h2, _⟩ := sdR_some ha hb hs ht e
      unfold accW at h2
      cases eb : acS B t w with
      | false => rw [eb] at h2; simp at h2
      | true => rw [eb, h w hw eb] at h2; simp at h2
/-- One automaton alone, searched through for the least word that it accepts. -/
def onS (A : Aut) (s : Int) (k : Nat) : Option Int := if stpQ A s k = -1 then none else some (stpQ A s k)
theorem onS_go (A : Aut) : ∀ (w : List Int) (s : Int), s ≠ -1 → goO (onS A) s w = if goA A s w = -1 then none else some (goA A s w)
  | [], s, hs => by
    show some s = _
    rw [if_neg (by exact hs)]; rfl
  | k :: w, s, hs => by
    show (onS A s k.toNat).bind _ = if goA A (stpQ A s k.toNat) w = -1 then none else some (goA A (stpQ A s k.toNat) w)
    unfold onS
    by_cases e : stpQ A s k.toNat = -1
    · rw [if_pos e, e, goA_none]; rfl
    · rw [if_neg e]
      exact onS_go A w _ e
theorem onS_acc (A : Aut) {s : Int} (hs : s ≠ -1) (w : List Int) : acO (onS A) (accI A) s w = acS A s w := by
  unfold acO acS
  rw [onS_go A w s hs]
  by_cases e : goA A s w = -1
  · rw [if_pos e, e]; rfl
  · rw [if_neg e]
end Go.Proofs.Ytmaagihfjldgeaa
