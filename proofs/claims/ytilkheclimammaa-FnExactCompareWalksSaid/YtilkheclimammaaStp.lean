/- Steps, and what an edge tells about each of its two steps, as plain data; how lists of them lie in cells. -/
import Derived.Test.YtilkheclimammaaWithin
namespace Go.Proofs.Ytilkheclimammaa
set_option maxRecDepth 100000
open Go.ChangeShapes Go.WideShapes Go.ChangeAt Go.RowKit
set_option linter.unusedVariables false

structure Stp where
  id : Int
  inv : Bool
theorem Stp.eq_iff (a b : Stp) : a = b ↔ (a.id = b.id ∧ a.inv = b.inv) :=
  ⟨fun h => by subst h; exact ⟨rfl, rfl⟩, fun h => by cases a; cases b; simp_all⟩
instance : DecidableEq Stp := fun a b => decidable_of_iff _ (Stp.eq_iff a b).symm
/-- A step together with what its edge tells about it. -/
structure Trv where
  id : Int
  inv : Bool
  fr : Int
  dst : Int
  le : Int
def Trv.st (t : Trv) : Stp := ⟨t.id, t.inv⟩
abbrev sv (s : Stp) : Value := .agg #[.int .i64 s.id, .bool s.inv]
abbrev tv (t : Trv) : Value := .agg #[.int .i64 t.id, .bool t.inv, .int .i64 t.fr, .int .i64 t.dst, .int .i64 t.le]
def Stp.cs (s : Stp) : List Value := [.int .i64 s.id, .bool s.inv]
def Trv.cs (t : Trv) : List Value := [.int .i64 t.id, .bool t.inv, .int .i64 t.fr, .int .i64 t.dst, .int .i64 t.le]
def zeroS : Stp := ⟨0, false⟩
def zeroT : Trv := ⟨0, false, 0, 0, 0⟩
def scells (xs : List Stp) : List Value := xs.flatMap Stp.cs
def tcells (xs : List Trv) : List Value := xs.flatMap Trv.cs
section
variable {α : Type} {cs : α → List Value} {s : Nat} (hs : ∀ a, (cs a).length = s)
include hs
theorem fcells_length (xs : List α) : (xs.flatMap cs).length = xs.length * s := by
  induction xs with
  | nil => simp
  | cons x xs ih => rw [List.flatMap_cons, List.length_append, ih, hs, List.length_cons, Nat.succ_mul]; omega
theorem fcells_take (xs : List α) (k : Nat) : (xs.flatMap cs).take (k * s) = (xs.take k).flatMap cs := by
  induction xs generalizing k with
  | nil => simp
  | cons x xs ih =>
    cases k with
    | zero => simp
    | succ k =>
      have h := hs x
      rw [List.take_succ_cons, List.flatMap_cons, List.flatMap_cons, ← ih k, List.take_append, h, Nat.succ_mul, List.take_of_length_le (by omega), Nat.add_sub_cancel]
theorem fcells_drop (xs : List α) (k : Nat) : (xs.flatMap cs).drop (k * s) = (xs.drop k).flatMap cs := by
  induction xs generalizing k with
  | nil => simp
  | cons x xs ih =>
    cases k with
    | zero => simp
    | succ k =>
      have h := hs x
      rw [List.drop_succ_cons, List.flatMap_cons, ← ih k, List.drop_append, h, Nat.succ_mul, List.drop_of_length_le (by omega), Nat.add_sub_cancel, List.nil_append]
theorem fcells_at (xs : List α) (i j : Nat) (h : i < xs.length) (hj : j < s) : (xs.flatMap cs)[i * s + j]? = (cs xs[i])[j]? := by
  rw [← List.getElem?_drop, fcells_drop hs, List.drop_eq_getElem_cons h, List.flatMap_cons, List.getElem?_append_left (by rw [hs]; exact hj)]
theorem fcells_set (xs : List α) (i : Nat) (h : i < xs.length) (e : α) : (xs.set i e).flatMap cs = (xs.flatMap cs).take (i * s) ++ cs e ++ (xs.flatMap cs).drop ((i + 1) * s) := by
  rw [fcells_take hs, fcells_drop hs, List.set_eq_take_append_cons_drop, if_pos h, List.flatMap_append, List.flatMap_cons, List.append_assoc]
end
theorem fcells_len2 {α β : Type} {cs : α → List β} (hs : ∀ a, (cs a).length = 2) (xs : List α) : (xs.flatMap cs).length = xs.length * 2 := by
  induction xs with
  | nil => simp
  | cons x xs ih => rw [List.flatMap_cons, List.length_append, ih, hs, List.length_cons]; omega
theorem scs_len (s : Stp) : s.cs.length = 2 := rfl
theorem tcs_len (t : Trv) : t.cs.length = 5 := rfl
theorem scells_length (xs : List Stp) : (scells xs).length = xs.length * 2 := fcells_length scs_len xs
theorem tcells_length (xs : List Trv) : (tcells xs).length = xs.length * 5 := fcells_length tcs_len xs
theorem scells_append (xs ys : List Stp) : scells (xs ++ ys) = scells xs ++ scells ys := by simp [scells]
theorem tcells_append (xs ys : List Trv) : tcells (xs ++ ys) = tcells xs ++ tcells ys := by simp [tcells]
theorem scells_oneCell (xs : List Stp) : ∀ u ∈ scells xs, u.oneCell' = true := by
  intro u hu
  simp [scells, Stp.cs] at hu
  obtain ⟨e, _, h⟩ := hu
  rcases h with h | h <;> subst h <;> rfl
theorem tcells_oneCell (xs : List Trv) : ∀ u ∈ tcells xs, u.oneCell' = true := by
  intro u hu
  simp [tcells, Trv.cs] at hu
  obtain ⟨e, _, h⟩ := hu
  rcases h with h | h | h | h | h <;> subst h <;> rfl
theorem mid_set2 (l : List Value) (o : Nat) (h : o + 2 ≤ l.length) (a b : Value) : (l.set o a).set (o + 1) b = l.take o ++ [a, b] ++ l.drop (o + 2) := by
  apply List.ext_getElem?
  intro j
  simp only [List.getElem?_set, List.length_set, List.append_assoc, List.getElem?_append, List.length_take, Nat.min_eq_left (by omega : o ≤ l.length), List.getElem?_take, List.length_cons, List.length_nil, List.getElem?_drop]
  rcases Nat.lt_trichotomy j o with hj | hj | hj
  · rw [if_neg (by omega), if_neg (by omega), if_pos hj, if_pos hj]
  · subst hj; rw [if_neg (by omega), if_pos rfl, if_pos (by omega), if_neg (by omega), if_pos (by omega), Nat.sub_self]; rfl
  · by_cases h1 : j = o + 1
    · subst h1; rw [if_pos rfl, if_pos (by omega), if_neg (by omega), if_pos (by omega), show o + 1 - o = 1 from by omega]; rfl
    · rw [if_neg (by omega), if_neg (by omega), if_neg (by omega), if_neg (by omega)]
      congr 1; omega
theorem mid_set5 (l : List Value) (o : Nat) (h : o + 5 ≤ l.length) (a b c d e : Value) : ((((l.set o a).set (o + 1) b).set (o + 2) c).set (o + 3) d).set (o + 4) e = l.take o ++ [a, b, c, d, e] ++ l.drop (o + 5) := by
  rw [mid_set2 l o (by omega), show o + 2 = (o + 2) from rfl]
  apply List.ext_getElem?
  intro j
  simp only [List.getElem?_set, List.length_set, List.append_assoc, List.getElem?_append, List.length_append, List.length_take, List.length_drop, Nat.min_eq_left (by omega : o ≤ l.length), List.getElem?_take, List.length_cons, List.length_nil, List.getElem?_drop]
  rcases Nat.lt_or_ge j o with hj | hj
  · rw [if_neg (by omega), if_neg (by omega), if_neg (by omega), if_pos hj, if_pos hj, if_pos hj]
  · obtain ⟨t, rfl⟩ := Nat.exists_eq_add_of_le hj
    match t with
    | 0 => rw [if_neg (by omega), if_neg (by omega), if_neg (by omega), if_neg (by omega), if_pos (by omega), if_neg (by omega), if_pos (by omega), show o + 0 - o = 0 from by omega]; rfl
    | 1 => rw [if_neg (by omega), if_neg (by omega), if_neg (by omega), if_neg (by omega), if_pos (by omega), if_neg (by omega), if_pos (by omega), show o + 1 - o = 1 from by omega]; rfl
    | 2 => rw [if_neg (by omega), if_neg (by omega), if_pos rfl, if_pos (by omega), if_neg (by omega), if_pos (by omega), show o + 2 - o = 2 from by omega]; rfl
    | 3 => rw [if_neg (by omega), if_pos rfl, if_pos (by omega), if_neg (by omega), if_pos (by omega), show o + 3 - o = 3 from by omega]; rfl
    | 4 => rw [if_pos rfl, if_pos (by omega), if_neg (by omega), if_pos (by omega), show o + 4 - o = 4 from by omega]; rfl
    | t + 5 =>
      rw [if_neg (by omega), if_neg (by omega), if_neg (by omega), if_neg (by omega), if_neg (by omega), if_neg (by omega), if_neg (by omega)]
      congr 1; omega
theorem scells_set (xs : List Stp) (i : Nat) (h : i < xs.length) (e : Stp) : ((scells xs).set (i * 2) (.int .i64 e.id)).set (i * 2 + 1) (.bool e.inv) = scells (xs.set i e) := by
  rw [mid_set2 _ _ (by rw [scells_length]; omega), show i * 2 + 2 = (i + 1) * 2 from by omega]
  exact (fcells_set scs_len xs i h e).symm
theorem tcells_set (xs : List Trv) (i : Nat) (h : i < xs.length) (e : Trv) :
    (((((tcells xs).set (i * 5) (.int .i64 e.id)).set (i * 5 + 1) (.bool e.inv)).set (i * 5 + 2) (.int .i64 e.fr)).set (i * 5 + 3) (.int .i64 e.dst)).set (i * 5 + 4) (.int .i64 e.le) = tcells (xs.set i e) := by
  rw [mid_set5 _ _ (by rw [tcells_length]; omega), show i * 5 + 5 = (i + 1) * 5 from by omega]
  exact (fcells_set tcs_len xs i h e).symm

/-- v is a slice of steps that reads as xs. -/
def StpsAt (w : World) (v : Value) (xs : List Stp) : Prop :=
  ∃ ao cap, v = .slice ao xs.length cap ∧ Hid (∀ i (h : i < xs.length), ∃ b off, ao = some ⟨b, off, none⟩ ∧ b < w.heap.size ∧
    w.cell? ⟨b, off + i * 2, none⟩ = some (.int .i64 xs[i].id) ∧ w.cell? ⟨b, off + i * 2 + 1, none⟩ = some (.bool xs[i].inv))
/-- v is a slice of traversals that reads as xs. -/
def TrvsAt (w : World) (v : Value) (xs : List Trv) : Prop :=
  ∃ ao cap, v = .slice ao xs.length cap ∧ Hid (∀ i (h : i < xs.length), ∃ b off, ao = some ⟨b, off, none⟩ ∧ b < w.heap.size ∧
    w.cell? ⟨b, off + i * 5, none⟩ = some (.int .i64 xs[i].id) ∧ w.cell? ⟨b, off + i * 5 + 1, none⟩ = some (.bool xs[i].inv) ∧ w.cell? ⟨b, off + i * 5 + 2, none⟩ = some (.int .i64 xs[i].fr) ∧
    w.cell? ⟨b, off + i * 5 + 3, none⟩ = some (.int .i64 xs[i].dst) ∧ w.cell? ⟨b, off + i * 5 + 4, none⟩ = some (.int .i64 xs[i].le))
theorem StpsAt.since {w w' : World} {v : Value} {xs : List Stp} (h : StpsAt w v xs) (k : Since w w') : StpsAt w' v xs := by
  obtain ⟨ao, cap, rfl, hc⟩ := h
  refine ⟨ao, cap, rfl, fun i hi => ?_⟩
  obtain ⟨b, off, e, hb, c⟩ := hc.out i hi
  refine ⟨b, off, e, Nat.lt_of_lt_of_le hb k.size, ?_⟩
  have hx : ∀ o, w'.cell? ⟨b, o, none⟩ = w.cell? ⟨b, o, none⟩ := fun o => Below.cell k (p := ⟨b, o, none⟩) hb
  rw [hx, hx]; exact c
theorem TrvsAt.since {w w' : World} {v : Value} {xs : List Trv} (h : TrvsAt w v xs) (k : Since w w') : TrvsAt w' v xs := by
  obtain ⟨ao, cap, rfl, hc⟩ := h
  refine ⟨ao, cap, rfl, fun i hi => ?_⟩
  obtain ⟨b, off, e, hb, c⟩ := hc.out i hi
  refine ⟨b, off, e, Nat.lt_of_lt_of_le hb k.size, ?_⟩
  have hx : ∀ o, w'.cell? ⟨b, o, none⟩ = w.cell? ⟨b, o, none⟩ := fun o => Below.cell k (p := ⟨b, o, none⟩) hb
  rw [hx, hx, hx, hx, hx]; exact c
/-- .. of the call's own (of a block from base on). -/
def OwnSt (base : Nat) (w : World) (v : Value) (xs : List Stp) : Prop := w.ownsRow base 33 2 v xs.length (scells xs)
def OwnT (base : Nat) (w : World) (v : Value) (xs : List Trv) : Prop := w.ownsRow base 77 5 v xs.length (tcells xs)
theorem ownSt_cells {w : World} {base g n cap : Nat} {xs : List Stp} (h : w.ownsRow base 33 2 (.slice (some ⟨g, 0, none⟩) n cap) n (scells xs)) (hn : n = xs.length) (i : Nat) (hi : i < xs.length) :
    w.cell? ⟨g, i * 2, none⟩ = some (.int .i64 xs[i].id) ∧ w.cell? ⟨g, i * 2 + 1, none⟩ = some (.bool xs[i].inv) := by
  subst hn
  have h0 := fcells_at scs_len xs i 0 hi (by omega)
  have h1 := fcells_at scs_len xs i 1 hi (by omega)
  rw [Nat.add_zero] at h0
  exact ⟨(h.cellAt _ (by omega)).trans h0, (h.cellAt _ (by omega)).trans h1⟩
theorem ownT_cells {w : World} {base g n cap : Nat} {xs : List Trv} (h : w.ownsRow base 77 5 (.slice (some ⟨g, 0, none⟩) n cap) n (tcells xs)) (hn : n = xs.length) (i : Nat) (hi : i < xs.length) :
    w.cell? ⟨g, i * 5, none⟩ = some (.int .i64 xs[i].id) ∧ w.cell? ⟨g, i * 5 + 1, none⟩ = some (.bool xs[i].inv) ∧ w.cell? ⟨g, i * 5 + 2, none⟩ = some (.int .i64 xs[i].fr) ∧
      w.cell? ⟨g, i * 5 + 3, none⟩ = some (.int .i64 xs[i].dst) ∧ w.cell? ⟨g, i * 5 + 4, none⟩ = some (.int .i64 xs[i].le) := by
  subst hn
  have h0 := fcells_at tcs_len xs i 0 hi (by omega)
  have h1 := fcells_at tcs_len xs i 1 hi (by omega)
  have h2 := fcells_at tcs_len xs i 2 hi (by omega)
  have h3 := fcells_at tcs_len xs i 3 hi (by omega)
  have h4 := fcells_at tcs_len xs i 4 hi (by omega)
  rw [Nat.add_zero] at h0
  exact ⟨(h.cellAt _ (by omega)).trans h0, (h.cellAt _ (by omega)).trans h1, (h.cellAt _ (by omega)).trans h2, (h.cellAt _ (by omega)).trans h3, (h.cellAt _ (by omega)).trans h4⟩
theorem OwnSt.at {base : Nat} {w : World} {v : Value} {xs : List Stp} (h : OwnSt base w v xs) : StpsAt w v xs := by
  have h2 := h
  rcases h.2 with ⟨hv, hn⟩ | ⟨g, cap, cur, rfl, hb, hg, _⟩
  · exact ⟨none, 0, by rw [hv, hn], fun i hi => by omega⟩
  · refine ⟨_, cap, rfl, fun i hi => ⟨g, 0, rfl, heap_lt hg, ?_⟩⟩
    rw [Nat.zero_add]
    exact ownSt_cells h2 rfl i hi
theorem OwnT.at {base : Nat} {w : World} {v : Value} {xs : List Trv} (h : OwnT base w v xs) : TrvsAt w v xs := by
  have h2 := h
  rcases h.2 with ⟨hv, hn⟩ | ⟨g, cap, cur, rfl, hb, hg, _⟩
  · exact ⟨none, 0, by rw [hv, hn], fun i hi => by omega⟩
  · refine ⟨_, cap, rfl, fun i hi => ⟨g, 0, rfl, heap_lt hg, ?_⟩⟩
    rw [Nat.zero_add]
    exact ownT_cells h2 rfl i hi
theorem row_mono {base base' size n : Nat} {e : TypeId} {w : World} {v : Value} {xs : List Value} (h : w.ownsRow base e size v n xs) (hb : base' ≤ base) : w.ownsRow base' e size v n xs := by
  obtain ⟨h2, h3⟩ := h
  refine ⟨h2, ?_⟩
  rcases h3 with h3 | ⟨g, cap, cur, a, b, c⟩
  · exact .inl h3
  · exact .inr ⟨g, cap, cur, a, Nat.le_trans hb b, c⟩
theorem row_since {base size n : Nat} {e : TypeId} {w w' : World} {v : Value} {xs : List Value} (h : w.ownsRow base e size v n xs) (k : Since w w') : w'.ownsRow base e size v n xs := by
  obtain ⟨h2, h3⟩ := h
  refine ⟨h2, ?_⟩
  rcases h3 with h3 | ⟨g, cap, cur, a, b, c, d⟩
  · exact .inl h3
  · exact .inr ⟨g, cap, cur, a, b, (k.block g (heap_lt c)).trans c, d⟩
theorem OwnSt.mono {base base' : Nat} {w : World} {v : Value} {xs : List Stp} (h : OwnSt base w v xs) (hb : base' ≤ base) : OwnSt base' w v xs := row_mono h hb
theorem OwnT.mono {base base' : Nat} {w : World} {v : Value} {xs : List Trv} (h : OwnT base w v xs) (hb : base' ≤ base) : OwnT base' w v xs := row_mono h hb
theorem OwnSt.since {base : Nat} {w w' : World} {v : Value} {xs : List Stp} (h : OwnSt base w v xs) (k : Since w w') : OwnSt base w' v xs := row_since h k
theorem OwnT.since {base : Nat} {w w' : World} {v : Value} {xs : List Trv} (h : OwnT base w v xs) (k : Since w w') : OwnT base w' v xs := row_since h k
theorem OwnSt.within {lo hi a b base : Nat} {w w' : World} {v : Value} {xs : List Stp} (h : OwnSt base w v xs) (hv : InR a b v) (k : Within lo hi w w') (hd : b ≤ lo ∨ hi ≤ a) : OwnSt base w' v xs := ownsRow_within h hv k hd
theorem OwnSt.inR {base : Nat} {w : World} {v : Value} {xs : List Stp} (h : OwnSt base w v xs) : InR base w.heap.size v := fun k hk => h.lt k hk
theorem OwnSt.len {base : Nat} {w : World} {v : Value} {xs : List Stp} (h : OwnSt base w v xs) : ∃ ao cap, v = .slice ao xs.length cap := by
  obtain ⟨ao, cap, e, _⟩ := h.at; exact ⟨ao, cap, e⟩
theorem OwnT.len {base : Nat} {w : World} {v : Value} {xs : List Trv} (h : OwnT base w v xs) : ∃ ao cap, v = .slice ao xs.length cap := by
  obtain ⟨ao, cap, e, _⟩ := h.at; exact ⟨ao, cap, e⟩
theorem OwnT.far {base : Nat} {w : World} {v : Value} {xs : List Trv} (h : OwnT base w v xs) {p : Addr} (hp : p.block < base) (u : Value) : OwnT base (w.setCell p u) v xs := ownsRow_setCell_below h hp u
theorem OwnSt.far {base : Nat} {w : World} {v : Value} {xs : List Stp} (h : OwnSt base w v xs) {p : Addr} (hp : p.block < base) (u : Value) : OwnSt base (w.setCell p u) v xs := ownsRow_setCell_below h hp u
def StOut (w : World) (xs : List Stp) (e : Ending) (w' : World) : Prop := ∃ v, e = .returned v ∧ OwnSt w.heap.size w' v xs ∧ Since w w'
def TrOut (w : World) (xs : List Trv) (e : Ending) (w' : World) : Prop := ∃ v, e = .returned v ∧ OwnT w.heap.size w' v xs ∧ Since w w'
theorem info_step : (Try.prog.info? 33).map (fun i => (i.zero, i.size, i.bytes)) = some (some (sv zeroS), 2, 16) := by kernel_rfl
theorem info_trv : (Try.prog.info? 77).map (fun i => (i.zero, i.size, i.bytes)) = some (some (tv zeroT), 5, 40) := by kernel_rfl
theorem made_steps (n : Nat) : (madeCells (sv zeroS).cells (n * 2)).toList = scells (List.replicate n zeroS) := by
  apply List.ext_getElem
  · rw [scells_length]; simp [madeCells]
  · intro j h1 h2
    rw [scells_length, List.length_replicate] at h2
    have ha := fcells_at scs_len (List.replicate n zeroS) (j / 2) (j % 2) (by rw [List.length_replicate]; omega) (by omega)
    rw [show j / 2 * 2 + j % 2 = j from by omega] at ha
    have hj : j % 2 = 0 ∨ j % 2 = 1 := by omega
    have e : (sv zeroS).cells = #[.int .i64 0, .bool false] := rfl
    have hb : (scells (List.replicate n zeroS))[j]? = (Stp.cs zeroS)[j % 2]? := by rw [show scells (List.replicate n zeroS) = (List.replicate n zeroS).flatMap Stp.cs from rfl, ha, List.getElem_replicate]
    rw [List.getElem?_eq_getElem (by rw [scells_length, List.length_replicate]; omega)] at hb
    simp only [madeCells, e, Array.toList_map, List.getElem_map]
    rcases hj with h | h
    · rw [h] at hb
      simp [h]
      exact (Option.some.inj hb).symm
    · rw [h] at hb
      simp [h]
      exact (Option.some.inj hb).symm
end Go.Proofs.Ytilkheclimammaa
