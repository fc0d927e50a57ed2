/- Histories as plain data: a number and graphs; how lists of graphs lie in cells. -/
import Derived.Test.YtgdeiecbkmhbeaaK1
namespace Go.Proofs.Ytgdeiecbkmhbeaa
set_option maxRecDepth 100000
open Go.ChangeShapes Go.WideShapes Go.ChangeAt Go.RowKit
set_option linter.unusedVariables false

abbrev nilV : Value := .slice none 0 0
def gcs (p : Value × Value) : List Value := [p.1, p.2]
def gcells (ps : List (Value × Value)) : List Value := ps.flatMap gcs
def zeroP : Value × Value := (nilV, nilV)
def zeroGr : Grf := ⟨[], []⟩
theorem gcs_len (p : Value × Value) : (gcs p).length = 2 := rfl
theorem gcells_length (ps : List (Value × Value)) : (gcells ps).length = ps.length * 2 := fcells_length gcs_len ps
theorem gcells_append (ps qs : List (Value × Value)) : gcells (ps ++ qs) = gcells ps ++ gcells qs := by simp [gcells]
theorem gcells_set (ps : List (Value × Value)) (i : Nat) (h : i < ps.length) (p : Value × Value) : ((gcells ps).set (i * 2) p.1).set (i * 2 + 1) p.2 = gcells (ps.set i p) := by
  rw [mid_set2 _ _ (by rw [gcells_length]; omega), show i * 2 + 2 = (i + 1) * 2 from by omega]
  exact (fcells_set gcs_len ps i h p).symm
theorem gcells_at0 (ps : List (Value × Value)) (i : Nat) (h : i < ps.length) : (gcells ps)[i * 2]? = some ps[i].1 := by
  have := fcells_at gcs_len ps i 0 h (by omega)
  rw [Nat.add_zero] at this; exact this
theorem gcells_at1 (ps : List (Value × Value)) (i : Nat) (h : i < ps.length) : (gcells ps)[i * 2 + 1]? = some ps[i].2 := fcells_at gcs_len ps i 1 h (by omega)
theorem info_graph : (Try.prog.info? 39).map (fun i => (i.zero, i.size, i.bytes)) = some (some (.agg #[nilV, nilV]), 2, 48) := by kernel_rfl
theorem made_graphs (n : Nat) : (madeCells (Value.agg #[nilV, nilV]).cells (n * 2)).toList = gcells (List.replicate n zeroP) := by
  apply List.ext_getElem
  · rw [gcells_length]; simp [madeCells]
  · intro j h1 h2
    rw [gcells_length, List.length_replicate] at h2
    have hq : j / 2 < (List.replicate n zeroP).length := by rw [List.length_replicate]; omega
    have hj : j % 2 = 0 ∨ j % 2 = 1 := by omega
    have e : (Value.agg #[nilV, nilV]).cells = #[nilV, nilV] := rfl
    have hz : ∀ p ∈ List.replicate n zeroP, p = zeroP := fun p hp => (List.mem_replicate.1 hp).2
    have a0 := gcells_at0 (List.replicate n zeroP) (j / 2) hq
    have a1 := gcells_at1 (List.replicate n zeroP) (j / 2) hq
    rw [hz _ (List.getElem_mem hq)] at a0 a1
    have hb : (gcells (List.replicate n zeroP))[j]? = some nilV := by
      rcases hj with h | h
      · rw [show j / 2 * 2 = j from by omega] at a0; exact a0
      · rw [show j / 2 * 2 + 1 = j from by omega] at a1; exact a1
    rw [List.getElem?_eq_getElem (by rw [gcells_length, List.length_replicate]; omega)] at hb
    simp only [madeCells, e, Array.toList_map, List.getElem_map]
    rw [Option.some.inj hb]
    rcases hj with h | h <;> simp [h]

/-- v is a slice of graphs that reads as gs. -/
def GrsAt (w : World) (v : Value) (gs : List Grf) : Prop :=
  ∃ ao cap, v = .slice ao gs.length cap ∧ Hid (∀ i (h : i < gs.length), ∃ b off p q, ao = some ⟨b, off, none⟩ ∧ b < w.heap.size ∧
    w.cell? ⟨b, off + i * 2, none⟩ = some p ∧ w.cell? ⟨b, off + i * 2 + 1, none⟩ = some q ∧ GrfAt w (.agg #[p, q]) gs[i])
theorem GrsAt.since {w w' : World} {v : Value} {gs : List Grf} (h : GrsAt w v gs) (k : Since w w') : GrsAt w' v gs := by
  obtain ⟨ao, cap, rfl, hc⟩ := h
  refine ⟨ao, cap, rfl, fun i hi => ?_⟩
  obtain ⟨b, off, p, q, e, hb, c0, c1, hg⟩ := hc.out i hi
  have hx : ∀ o, w'.cell? ⟨b, o, none⟩ = w.cell? ⟨b, o, none⟩ := fun o => Below.cell k (p := ⟨b, o, none⟩) hb
  refine ⟨b, off, p, q, e, Nat.lt_of_lt_of_le hb k.size, ?_, ?_, hg.since k⟩
  · rw [hx]; exact c0
  · rw [hx]; exact c1
theorem GrsAt.nil (w : World) (ao : Option Addr) (cap : Nat) : GrsAt w (.slice ao 0 cap) [] := ⟨ao, cap, rfl, fun i hi => by simp at hi⟩
theorem GrsAt.len {w : World} {v : Value} {gs : List Grf} (h : GrsAt w v gs) : ∃ ao cap, v = .slice ao gs.length cap := by
  obtain ⟨ao, cap, e, _⟩ := h; exact ⟨ao, cap, e⟩

/-- Graphs one behind the other: the memory of each ends where the next one's begins. -/
def Nest (w : World) : Nat → Nat → List (Value × Value) → List Grf → Prop
  | lo, hi, [], [] => lo ≤ hi
  | lo, hi, p :: ps, g :: gs => ∃ m, lo ≤ m ∧ m ≤ hi ∧ OwnG lo m w (.agg #[p.1, p.2]) g ∧ Nest w m hi ps gs
  | _, _, _, _ => False
section
variable {w w' : World}
theorem Nest.le : ∀ {lo hi : Nat} {ps : List (Value × Value)} {gs : List Grf}, Nest w lo hi ps gs → lo ≤ hi
  | lo, hi, [], [], h => h
  | lo, hi, p :: ps, g :: gs, ⟨m, h1, h2, _, _⟩ => Nat.le_trans h1 h2
  | _, _, [], _ :: _, h => h.elim
  | _, _, _ :: _, [], h => h.elim
theorem Nest.len : ∀ {lo hi : Nat} {ps : List (Value × Value)} {gs : List Grf}, Nest w lo hi ps gs → ps.length = gs.length
  | lo, hi, [], [], h => rfl
  | lo, hi, p :: ps, g :: gs, ⟨m, _, _, _, h⟩ => by simp [Nest.len h]
  | _, _, [], _ :: _, h => h.elim
  | _, _, _ :: _, [], h => h.elim
theorem Nest.since (k : Since w w') : ∀ {lo hi : Nat} {ps : List (Value × Value)} {gs : List Grf}, Nest w lo hi ps gs → Nest w' lo hi ps gs
  | lo, hi, [], [], h => h
  | lo, hi, p :: ps, g :: gs, ⟨m, h1, h2, h3, h4⟩ => ⟨m, h1, h2, h3.since k, Nest.since k h4⟩
  | _, _, [], _ :: _, h => h.elim
  | _, _, _ :: _, [], h => h.elim
theorem Nest.within {a b : Nat} (k : Within a b w w') : ∀ {lo hi : Nat} {ps : List (Value × Value)} {gs : List Grf}, (hi ≤ a ∨ b ≤ lo) → Nest w lo hi ps gs → Nest w' lo hi ps gs
  | lo, hi, [], [], _, h => h
  | lo, hi, p :: ps, g :: gs, hd, ⟨m, h1, h2, h3, h4⟩ => ⟨m, h1, h2, h3.within k (by omega), Nest.within k (by omega) h4⟩
  | _, _, [], _ :: _, _, h => h.elim
  | _, _, _ :: _, [], _, h => h.elim
theorem Nest.wider : ∀ {lo hi lo' hi' : Nat} {ps : List (Value × Value)} {gs : List Grf}, Nest w lo hi ps gs → lo' ≤ lo → hi ≤ hi' → Nest w lo' hi' ps gs
  | lo, hi, lo', hi', [], [], h, h1, h2 => by unfold Nest at h ⊢; omega
  | lo, hi, lo', hi', p :: ps, g :: gs, ⟨m, a1, a2, a3, a4⟩, h1, h2 => ⟨m, by omega, by omega, a3.wider h1 (Nat.le_refl _), Nest.wider a4 (Nat.le_refl _) h2⟩
  | _, _, _, _, [], _ :: _, h, _, _ => h.elim
  | _, _, _, _, _ :: _, [], h, _, _ => h.elim
theorem Nest.append : ∀ {lo m hi : Nat} {ps qs : List (Value × Value)} {gs hs : List Grf}, Nest w lo m ps gs → Nest w m hi qs hs → Nest w lo hi (ps ++ qs) (gs ++ hs)
  | lo, m, hi, [], qs, [], hs, h, k => k.wider h (Nat.le_refl _)
  | lo, m, hi, p :: ps, qs, g :: gs, hs, ⟨n, a1, a2, a3, a4⟩, k => ⟨n, a1, Nat.le_trans a2 k.le, a3, Nest.append a4 k⟩
  | _, _, _, [], _, _ :: _, _, h, _ => h.elim
  | _, _, _, _ :: _, _, [], _, h, _ => h.elim
theorem Nest.one {lo hi : Nat} {a b : Value} {g : Grf} (h : OwnG lo hi w (.agg #[a, b]) g) (hl : lo ≤ hi) : Nest w lo hi [(a, b)] [g] := ⟨hi, hl, Nat.le_refl _, h, Nat.le_refl _⟩
theorem Nest.snoc {lo m hi : Nat} {ps : List (Value × Value)} {gs : List Grf} {a b : Value} {g : Grf} (h : Nest w lo m ps gs) (k : OwnG m hi w (.agg #[a, b]) g) (hm : m ≤ hi) : Nest w lo hi (ps ++ [(a, b)]) (gs ++ [g]) := h.append (Nest.one k hm)
/-- .. parted at a place. -/
theorem Nest.split : ∀ {lo hi : Nat} {ps : List (Value × Value)} {gs : List Grf} (i : Nat) (hp : i < ps.length) (hg : i < gs.length), Nest w lo hi ps gs →
    ∃ a b, lo ≤ a ∧ a ≤ b ∧ b ≤ hi ∧ OwnG a b w (.agg #[ps[i].1, ps[i].2]) gs[i] ∧ Nest w lo a (ps.take i) (gs.take i) ∧ Nest w b hi (ps.drop (i + 1)) (gs.drop (i + 1))
  | lo, hi, p :: ps, g :: gs, 0, hp, hg, ⟨m, h1, h2, h3, h4⟩ => ⟨lo, m, Nat.le_refl _, h1, h2, h3, Nat.le_refl _, h4⟩
  | lo, hi, p :: ps, g :: gs, i + 1, hp, hg, ⟨m, h1, h2, h3, h4⟩ => by
    obtain ⟨a, b, k1, k2, k3, k4, k5, k6⟩ := Nest.split i (by simpa using hp) (by simpa using hg) h4
    exact ⟨a, b, Nat.le_trans h1 k1, k2, k3, k4, ⟨m, h1, k1, h3, k5⟩, k6⟩
  | _, _, [], _, _, hp, _, _ => by simp at hp
  | _, _, _ :: _, [], _, _, hg, _ => by simp at hg
theorem Nest.at {lo hi : Nat} {ps : List (Value × Value)} {gs : List Grf} (h : Nest w lo hi ps gs) (i : Nat) (hp : i < ps.length) (hg : i < gs.length) : GrfAt w (.agg #[ps[i].1, ps[i].2]) gs[i] := by
  obtain ⟨a, b, _, _, _, h4, _, _⟩ := h.split i hp hg
  exact h4.at
theorem Nest.drop : ∀ {lo hi : Nat} {ps : List (Value × Value)} {gs : List Grf} (k : Nat), Nest w lo hi ps gs → Nest w lo hi (ps.drop k) (gs.drop k)
  | lo, hi, ps, gs, 0, h => by simpa using h
  | lo, hi, [], [], k + 1, h => by simpa using h
  | lo, hi, p :: ps, g :: gs, k + 1, ⟨m, h1, h2, h3, h4⟩ => (Nest.drop k h4).wider h1 (Nat.le_refl _)
  | _, _, [], _ :: _, _ + 1, h => h.elim
  | _, _, _ :: _, [], _ + 1, h => h.elim
/-- A row of graphs that grows leaves the graphs' own memory alone. -/
theorem Nest.grown {row : Option Nat} (k : w.grownBy w' row) (hr : ∀ b, row = some b → ∃ cur fz, w.heap[b]? = some (.cells cur 39 fz)) : ∀ {lo hi : Nat} {ps : List (Value × Value)} {gs : List Grf}, Nest w lo hi ps gs → Nest w' lo hi ps gs
  | lo, hi, [], [], h => h
  | lo, hi, p :: ps, g :: gs, ⟨m, h1, h2, ⟨a, b, e, ka, ra, kb, rb⟩, h4⟩ => by
    refine ⟨m, h1, h2, ⟨a, b, e, ⟨ka.1, ka.2.kept k ?_⟩, ra, ⟨kb.1, kb.2.kept k ?_⟩, rb⟩, Nest.grown k hr h4⟩
    · cases row with
      | none => cases ha : a.ownBlock with
        | none => exact .inl rfl
        | some q => exact .inr (by simp)
      | some q =>
        obtain ⟨cur, fz, hq⟩ := hr q rfl
        exact .inr (other_type ka.2 hq (by decide))
    · cases row with
      | none => cases ha : b.ownBlock with
        | none => exact .inl rfl
        | some q => exact .inr (by simp)
      | some q =>
        obtain ⟨cur, fz, hq⟩ := hr q rfl
        exact .inr (other_type kb.2 hq (by decide))
  | _, _, [], _ :: _, h => h.elim
  | _, _, _ :: _, [], h => h.elim
theorem Nest.far {lo hi : Nat} {ps : List (Value × Value)} {gs : List Grf} (h : Nest w lo hi ps gs) {B : Nat} (hB : B < lo ∨ hi ≤ B) (i : Nat) (u : Value) : Nest (w.setCell ⟨B, i, none⟩ u) lo hi ps gs := by
  have k : Within B (B + 1) w (w.setCell ⟨B, i, none⟩ u) := ⟨rfl, rfl, rfl, by simp [World.setCell], fun k _ hn => Below.heap_setCell w ⟨B, i, none⟩ u k (by show k ≠ B; omega)⟩
  exact h.within k (by omega)
end
/-- The block of a row. -/
theorem row_block {w : World} {base size n : Nat} {e : TypeId} {v : Value} {xs : List Value} (h : w.ownsRow base e size v n xs) : ∀ b, v.ownBlock = some b → ∃ cur fz, w.heap[b]? = some (.cells cur e fz) := by
  intro b hb
  rcases h.2 with ⟨rfl, _⟩ | ⟨g, cap, cur, rfl, _, hg, _⟩
  · simp [Value.ownBlock] at hb
  · simp [Value.ownBlock] at hb
    subst hb
    exact ⟨_, _, hg⟩
/-- v is a slice of graphs of the call's own: its row and the graphs' memory lie in blocks from lo on and below hi. -/
def OwnR (lo hi : Nat) (w : World) (v : Value) (gs : List Grf) : Prop :=
  ∃ ps, w.ownsRow lo 39 2 v gs.length (gcells ps) ∧ ps.length = gs.length ∧ InR lo hi v ∧ Nest w lo hi ps gs
theorem ownR_cells {w : World} {base g n cap : Nat} {ps : List (Value × Value)} (h : w.ownsRow base 39 2 (.slice (some ⟨g, 0, none⟩) n cap) n (gcells ps)) (hn : n = ps.length) (i : Nat) (hi : i < ps.length) :
    w.cell? ⟨g, i * 2, none⟩ = some ps[i].1 ∧ w.cell? ⟨g, i * 2 + 1, none⟩ = some ps[i].2 := by
  subst hn
  exact ⟨(h.cellAt _ (by omega)).trans (gcells_at0 ps i hi), (h.cellAt _ (by omega)).trans (gcells_at1 ps i hi)⟩
theorem grs_of_row {w : World} {lo hi base : Nat} {v : Value} {gs : List Grf} {ps : List (Value × Value)} (h : w.ownsRow base 39 2 v gs.length (gcells ps)) (hl : ps.length = gs.length) (hN : Nest w lo hi ps gs) : GrsAt w v gs := by
  rcases h.2 with ⟨hv, hn⟩ | ⟨g, cap, cur, rfl, hb, hg, _⟩
  · exact ⟨none, 0, by rw [hv, hn], fun i hi => by omega⟩
  · refine ⟨_, cap, rfl, fun i hi => ?_⟩
    obtain ⟨c0, c1⟩ := ownR_cells h hl.symm i (by omega)
    exact ⟨g, 0, ps[i].1, ps[i].2, rfl, heap_lt hg, by simpa using c0, by simpa using c1, hN.at i (by omega) hi⟩
section
variable {lo hi : Nat} {w w' : World} {v : Value} {gs : List Grf}
theorem OwnR.at (h : OwnR lo hi w v gs) : GrsAt w v gs := by
  obtain ⟨ps, h1, h2, _, h4⟩ := h
  exact grs_of_row h1 h2 h4
theorem OwnR.since (h : OwnR lo hi w v gs) (k : Since w w') : OwnR lo hi w' v gs := by
  obtain ⟨ps, h1, h2, h3, h4⟩ := h
  exact ⟨ps, row_since h1 k, h2, h3, h4.since k⟩
theorem OwnR.within {a b : Nat} (h : OwnR a b w v gs) (k : Within lo hi w w') (hd : b ≤ lo ∨ hi ≤ a) : OwnR a b w' v gs := by
  obtain ⟨ps, h1, h2, h3, h4⟩ := h
  exact ⟨ps, ownsRow_within h1 h3 k hd, h2, h3, h4.within k (by omega)⟩
theorem OwnR.wider {a' b' : Nat} (h : OwnR lo hi w v gs) (ha : a' ≤ lo) (hb : hi ≤ b') : OwnR a' b' w v gs := by
  obtain ⟨ps, h1, h2, h3, h4⟩ := h
  exact ⟨ps, row_mono h1 ha, h2, h3.mono ha hb, h4.wider ha hb⟩
theorem OwnR.len (h : OwnR lo hi w v gs) : ∃ ao cap, v = .slice ao gs.length cap := h.at.len
theorem OwnR.nil (w : World) (lo hi : Nat) (h : lo ≤ hi) : OwnR lo hi w nilV [] := ⟨[], World.ownsRow_nil _ _ _ _, rfl, fun k hk => by simp [Value.ownBlock] at hk, h⟩
theorem OwnR.far {B : Nat} (h : OwnR lo hi w v gs) (hB : B < lo ∨ hi ≤ B) (i : Nat) (u : Value) : OwnR lo hi (w.setCell ⟨B, i, none⟩ u) v gs := by
  have k : Within B (B + 1) w (w.setCell ⟨B, i, none⟩ u) := ⟨rfl, rfl, rfl, by simp [World.setCell], fun k _ hn => Below.heap_setCell w ⟨B, i, none⟩ u k (by show k ≠ B; omega)⟩
  exact h.within k (by omega)
end
structure Hst where
  f : Int
  gs : List Grf
theorem Hst.eq_iff (a b : Hst) : a = b ↔ (a.f = b.f ∧ a.gs = b.gs) :=
  ⟨fun h => by subst h; exact ⟨rfl, rfl⟩, fun h => by cases a; cases b; simp_all⟩
instance : DecidableEq Hst := fun a b => decidable_of_iff _ (Hst.eq_iff a b).symm
/-- v is a history that reads as h. -/
def HstAt (w : World) (v : Value) (h : Hst) : Prop := ∃ b, v = .agg #[.int .i64 h.f, b] ∧ GrsAt w b h.gs
theorem HstAt.since {w w' : World} {v : Value} {x : Hst} (h : HstAt w v x) (k : Since w w') : HstAt w' v x := by
  obtain ⟨b, rfl, h1⟩ := h; exact ⟨b, rfl, h1.since k⟩
def OwnH (lo hi : Nat) (w : World) (v : Value) (h : Hst) : Prop := ∃ b, v = .agg #[.int .i64 h.f, b] ∧ OwnR lo hi w b h.gs
theorem OwnH.at {lo hi : Nat} {w : World} {v : Value} {x : Hst} (h : OwnH lo hi w v x) : HstAt w v x := by
  obtain ⟨b, rfl, h1⟩ := h; exact ⟨b, rfl, h1.at⟩
theorem OwnH.since {lo hi : Nat} {w w' : World} {v : Value} {x : Hst} (h : OwnH lo hi w v x) (k : Since w w') : OwnH lo hi w' v x := by
  obtain ⟨b, rfl, h1⟩ := h; exact ⟨b, rfl, h1.since k⟩
theorem OwnH.within {lo hi a b : Nat} {w w' : World} {v : Value} {x : Hst} (h : OwnH a b w v x) (k : Within lo hi w w') (hd : b ≤ lo ∨ hi ≤ a) : OwnH a b w' v x := by
  obtain ⟨y, rfl, h1⟩ := h; exact ⟨y, rfl, h1.within k hd⟩
theorem OwnH.wider {a b a' b' : Nat} {w : World} {v : Value} {x : Hst} (h : OwnH a b w v x) (ha : a' ≤ a) (hb : b ≤ b') : OwnH a' b' w v x := by
  obtain ⟨y, rfl, h1⟩ := h; exact ⟨y, rfl, h1.wider ha hb⟩
theorem OwnH.far {lo hi : Nat} {w : World} {v : Value} {x : Hst} {B : Nat} (h : OwnH lo hi w v x) (hB : B < lo ∨ hi ≤ B) (i : Nat) (u : Value) : OwnH lo hi (w.setCell ⟨B, i, none⟩ u) v x := by
  obtain ⟨y, rfl, h1⟩ := h; exact ⟨y, rfl, h1.far hB i u⟩
/-- The answer of a function that gives a history. -/
def HOut (w : World) (x : Hst) (e : Ending) (w' : World) : Prop := ∃ v, e = .returned v ∧ OwnH w.heap.size w'.heap.size w' v x ∧ Since w w'
/-- The answer of a function that gives a history and a truth value. -/
def HBOut (w : World) (x : Hst) (c : Bool) (e : Ending) (w' : World) : Prop := ∃ v, e = .returned (.tuple #[v, .bool c]) ∧ OwnH w.heap.size w'.heap.size w' v x ∧ Since w w'
end Go.Proofs.Ytgdeiecbkmhbeaa
