/- ParseWalk: append of one step; the answers; facts of the cases. -/
import Derived.Test.YtilkheclimammaaDoorQkP
import Derived.Test.YtilkheclimammaaDoorK3
namespace Go.Proofs.YtilkheclimammaaDoor
set_option maxRecDepth 100000
open Go.ChangeShapes Go.WideShapes Go.ChangeAt Go.RowKit
set_option linter.unusedVariables false
set_option linter.unusedSimpArgs false

theorem Blk.grwQ {w w' : World} {g : Nat} {t : TypeId} {cs : Array Value} {row : Option Nat} (h : Blk w g t cs) (k : w.grownBy w' row) (hd : some g ≠ row) : Blk w' g t cs := (k.block g h.lt hd).trans h
/-- append of one step onto steps of the call's own. -/
theorem wpList_append_stB {base : Nat} {wr : World} {ops : Array Oper} {rest : List Oper} {o : Oper} {a : Act} {Q : Exit → Act → World → Prop} (hgd : o.guard = none) (s x : Operand)
    (ho : o.op = .call { callee := .builtin .append, args := #[s, x], argTypes := #[27, 27] }) (v : Value) (xs : List Stp) (hs : a.eval s = v) (hown : OwnSt base wr v xs)
    (t : Stp) (hx : a.eval x = .slice (some ⟨wr.heap.size, 0, none⟩) 1 1) (hlen : xs.length ≤ 1048577) (hb : base ≤ wr.heap.size)
    (h : ∀ v' w', OwnSt base w' v' (xs ++ [t]) → (wr.alloc (.cells #[.int .i64 t.id, .bool t.inv] 41)).grownBy w' v.ownBlock → wpList Tryd.prog ops Q rest (a.put o.dst v') w') :
    wpList Tryd.prog ops Q (o :: rest) a (wr.alloc (.cells #[.int .i64 t.id, .bool t.inv] 41)) := by
  obtain ⟨i0, hi, hz0, hz1, hz2⟩ := info_parts info_step
  have hown' : OwnSt base (wr.alloc (.cells #[.int .i64 t.id, .bool t.inv] 41)) v xs := hown.since ((Since.refl wr).alloc _)
  have hB : Blk (wr.alloc (.cells #[.int .i64 t.id, .bool t.inv] 41)) wr.heap.size 41 #[.int .i64 t.id, .bool t.inv] := Blk.new rfl _ _
  refine wpList_append_own _ hgd s x 27 ho base 41 i0 (sv zeroS) 2 16 Tryd.underlying27 hi hz0 hz1 hz2 rfl (by decide) v xs.length (scells xs) hs hown' ⟨wr.heap.size, 0, none⟩ 1 1 (scells [t]) hx rfl ?_ (scells_oneCell _) (by unfold maxLen; omega) (by omega) (Nat.le_trans hb ((Since.refl wr).alloc _).size) ?_
  · intro j u hj
    rw [add_plain, Nat.zero_add, hB.cell, ← hj, ← Array.getElem?_toList]; rfl
  · intro v' w' h1 h2 _
    refine h v' w' ?_ h2
    show w'.ownsRow _ _ _ _ (xs ++ [t]).length (scells (xs ++ [t]))
    rw [List.length_append, scells_append]
    exact h1
theorem wbQ_no {w w' : World} {p : List UInt8} {t : List (List UInt8)} (h : piB p t = false) (hs : Since w w') : WBOut w (pkW p t) (piB p t) (.returned (.tuple #[.agg #[.int .i64 0, .slice none 0 0], .bool false])) w' := by
  rw [h, pkW_no h]
  exact ⟨_, rfl, OwnW.mk (World.ownsRow_nil _ _ _ _), hs⟩
theorem wbQ_yes {w w' : World} {p : List UInt8} {t : List (List UInt8)} {n0 : Int} {b : Value} (h : piB p t = true) (h0 : n0 = (pOut p).1) (ho : OwnSt w.heap.size w' b (t.map sOf)) (hs : Since w w') : WBOut w (pkW p t) (piB p t) (.returned (.tuple #[.agg #[.int .i64 n0, b], .bool true])) w' := by
  subst h0
  rw [h, (pkW_yes h).1]
  exact ⟨_, rfl, OwnW.mk ho, hs⟩
theorem piB_part {p : List UInt8} {t : List (List UInt8)} (j : Nat) (hj : j < t.length) (h : okP t[j] = false) : piB p t = false := by
  unfold piB
  have : t.all okP = false := by
    cases ha : t.all okP with
    | false => rfl
    | true => rw [List.all_eq_true] at ha; have := ha t[j] (List.getElem_mem hj); rw [h] at this; cases this
  rw [this, Bool.and_false]
theorem piB_p {p : List UInt8} {t : List (List UInt8)} (h : (pOut p).2 = false) : piB p t = false := by unfold piB; rw [h]; rfl
theorem piB_n {p : List UInt8} {t : List (List UInt8)} (h : inB (pOut p).1 0 4 = false) : piB p t = false := by unfold piB; rw [h]; simp
theorem piB_all {p : List UInt8} {t : List (List UInt8)} (h1 : (pOut p).2 = true) (h2 : inB (pOut p).1 0 4 = true) (h3 : t.length ≤ 60) (h4 : t.all okP = true) : piB p t = true := by
  unfold piB; rw [h1, h2, h4, decide_eq_true h3]; rfl
theorem map_takeQ (t : List (List UInt8)) (j : Nat) (hj : j < t.length) : (t.take (j + 1)).map sOf = (t.take j).map sOf ++ [sOf t[j]] := by
  rw [List.take_succ_eq_append_getElem hj, List.map_append]; rfl
theorem all_takeQ (t : List (List UInt8)) (j : Nat) (hj : j < t.length) (h : (t.take j).all okP = true) (h2 : okP t[j] = true) : (t.take (j + 1)).all okP = true := by
  rw [List.take_succ_eq_append_getElem hj, List.all_append, h, List.all_cons, h2]; rfl
theorem splitQ_at {s : ByteArray} {p : List UInt8} {t : List (List UInt8)} (h : parts62 s = p :: t) (T : Nat) (hT : T = t.length) (w : World) (hs : s.size ≤ 1048576) (hm : MaxK w) :
    Calls Tryd.prog 26 #[.string s, .string ⟨#[32]⟩, .int .i64 62] w fun e w' => ∃ g c, e = .returned (.slice (some ⟨g, 0, none⟩) (T + 1) c) ∧ T + 1 ≤ c ∧ Since w w' ∧ Hid (∀ W, Since w' W → W.cell? ⟨g, 0, none⟩ = some (.string (bS p)) ∧ ∀ k (hk : k < t.length), W.cell? ⟨g, k + 1, none⟩ = some (.string (bS t[k]))) := by
  subst hT
  refine (splitN_parts s w hs hm).mono ?_
  rintro e w' ⟨g, c, rfl, hc, hs1, H⟩
  rw [h] at hc H ⊢
  refine ⟨g, c, rfl, hc, hs1, fun W hW => ⟨H.out W hW 0 (by simp), fun k hk => H.out W hW (k + 1) (by simpa using hk)⟩⟩
theorem cutQ_at {s : ByteArray} {p : List UInt8} {t : List (List UInt8)} (h : cutL s.data.toList = p :: t) (T : Nat) (hT : T = t.length) (w : World) (hs : s.size ≤ 1048576) :
    Calls Tryd.prog 24 #[.string s, .int .u8 32] w fun e w' => ∃ g c, e = .returned (.slice (some ⟨g, 0, none⟩) (T + 1) c) ∧ T + 1 ≤ c ∧ Since w w' ∧ Hid (∀ W, Since w' W → W.cell? ⟨g, 0, none⟩ = some (.string (bS p)) ∧ ∀ k (hk : k < t.length), W.cell? ⟨g, k + 1, none⟩ = some (.string (bS t[k]))) := by
  subst hT
  refine (cut_parts s w hs).mono ?_
  rintro e w' ⟨g, c, rfl, hc, hs1, H⟩
  rw [h] at hc H ⊢
  refine ⟨g, c, rfl, hc, hs1, fun W hW => ⟨H.out W hW 0 (by simp), fun k hk => H.out W hW (k + 1) (by simpa using hk)⟩⟩
end Go.Proofs.YtilkheclimammaaDoor
