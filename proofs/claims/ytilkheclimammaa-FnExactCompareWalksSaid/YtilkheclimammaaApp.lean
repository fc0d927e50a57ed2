/- append onto a row of the call's own from whatever slice: nil, empty or not. -/
import Derived.Test.YtilkheclimammaaGrfL
import Derived.Maps.AppendAt
import Derived.Deep.RegionLaw
namespace Go.Proofs.Ytilkheclimammaa
set_option maxRecDepth 100000
open Go.ChangeShapes Go.WideShapes Go.ChangeAt Go.RowKit
set_option linter.unusedVariables false

/-- What a slice of these cells lays out: at each place j the cell, behind some address. -/
def SrcAt (w : World) (ao : Option Addr) (news : List Value) : Prop := 0 < news.length → ∃ ad, ao = some ad ∧ ∀ j u, news[j]? = some u → w.cell? (ad.add j) = some u
def AppOut (w : World) (base : Nat) (e : TypeId) (size : Nat) (v : Value) (n : Nat) (xs : List Value) (v' : Value) (w' : World) : Prop :=
  w'.ownsRow base e size v' n xs ∧ w.grownBy w' v.ownBlock ∧ (v'.ownBlock = v.ownBlock ∨ v'.ownBlock = some w.heap.size)
theorem run_append_src (w : World) (base : Nat) (t ty e : TypeId) (z : Value) (size bytes : Nat) (ht : Try.prog.underlying t = some (.slice e))
    (hinfo : (Try.prog.info? e).map (fun i => (i.zero, i.size, i.bytes)) = some (some z, size, bytes)) (hz : z.cells.size = size) (hsz : 0 < size)
    (v : Value) (n : Nat) (xs : List Value) (hown : w.ownsRow base e size v n xs) (ao : Option Addr) (m c : Nat) (news : List Value) (hl : news.length = m * size) (hsrc : SrcAt w ao news) (h1 : ∀ u ∈ news, u.oneCell' = true)
    (h63 : n + m ≤ maxLen) (hbytes : (n + m) * bytes ≤ 140737488355328) (hbase : base ≤ w.heap.size) :
    ∃ v' w', (Builtin.append_ #[t, t] ty #[v, .slice ao m c]).run Try.prog w = .ok v' w' ∧ AppOut w base e size v (n + m) (xs ++ news) v' w' := by
  obtain ⟨i0, hi, hz0, hz1, hz2⟩ := info_parts hinfo
  cases ao with
  | none =>
    have hm : m = 0 := by
      rcases Nat.eq_zero_or_pos m with h | h
      · exact h
      · obtain ⟨ad, e1, _⟩ := hsrc (by rw [hl]; exact Nat.mul_pos h hsz)
        cases e1
    subst hm
    have hn : news = [] := List.eq_nil_of_length_eq_zero (by omega)
    subst hn
    refine ⟨v, w, ?_, ⟨by simpa using hown, ⟨rfl, rfl, rfl, Nat.le_refl _, fun _ _ _ => rfl⟩, .inl rfl⟩⟩
    rcases hown.2 with ⟨rfl, rfl⟩ | ⟨g, cap, cur, rfl, _, _, hnc, _⟩
    · simp [Builtin.append_, run_underlying ht, sizeOf, typeInfo, hi, Builtin.lenOf, Builtin.firstCells]
    · simp [Builtin.append_, run_underlying ht, sizeOf, typeInfo, hi, Builtin.lenOf, Builtin.firstCells, hnc, storeCells]
  | some ad =>
    have hc : ∀ j u, news[j]? = some u → w.cell? (ad.add j) = some u := by
      intro j u hu
      obtain ⟨ad', e1, h⟩ := hsrc (by have := (List.getElem?_eq_some_iff.1 hu).1; omega)
      injection e1 with e1; subst e1
      exact h j u hu
    obtain ⟨v', w', hrun, h2, h3, _, h5⟩ := run_append_own_at (P := Try.prog) w base t ty e i0 z size bytes ht hi hz0 hz1 hz2 hz hsz v n xs hown ad m c news hl hc h1 h63 hbytes hbase
    exact ⟨v', w', hrun, h2, h3, h5⟩
theorem ints_src {w : World} {ao : Option Addr} {n cap : Nat} {xs : List Int} (h : IntsAt w (.slice ao n cap) xs) : SrcAt w ao (xs.map icell) ∧ n = xs.length := by
  obtain ⟨ao', cap', e, HC⟩ := h.row
  injection e with e1 e2 e3
  subst e1 e2 e3
  refine ⟨fun h0 => ?_, rfl⟩
  obtain ⟨b, off, e, _, _⟩ := HC.out 0 (by simpa using h0)
  refine ⟨⟨b, off, none⟩, e, fun j u hu => ?_⟩
  rw [List.getElem?_map] at hu
  obtain ⟨x, hx, rfl⟩ := Option.map_eq_some_iff.1 hu
  obtain ⟨hj, rfl⟩ := List.getElem?_eq_some_iff.1 hx
  obtain ⟨b', off', e', _, hc⟩ := HC.out j hj
  rw [e] at e'; injection e' with e'; injection e' with e1 e2; subst e1; subst e2
  rw [add_plain]; exact hc
theorem edges_src {w : World} {ao : Option Addr} {n cap : Nat} {xs : List Edg} (h : EdgesAt w (.slice ao n cap) xs) : SrcAt w ao (ecells xs) ∧ n = xs.length := by
  obtain ⟨ao', cap', e, HC⟩ := h.row
  injection e with e1 e2 e3
  subst e1 e2 e3
  refine ⟨fun h0 => ?_, rfl⟩
  rw [ecells_length] at h0
  obtain ⟨b, off, e, _, _⟩ := HC.out 0 (by omega)
  refine ⟨⟨b, off, none⟩, e, fun j u hu => ?_⟩
  have hjl : j < xs.length * 4 := by have := (List.getElem?_eq_some_iff.1 hu).1; rw [ecells_length] at this; exact this
  have hq : j / 4 < xs.length := by omega
  obtain ⟨b', off', e', _, c0, c1, c2, c3⟩ := HC.out (j / 4) hq
  rw [e] at e'; injection e' with e'; injection e' with e1 e2; subst e1; subst e2
  have ha := ecells_at xs (j / 4) (j % 4) hq (Nat.mod_lt _ (by omega))
  rw [show j / 4 * 4 + j % 4 = j from by omega, hu] at ha
  rw [add_plain]
  have hr : j % 4 = 0 ∨ j % 4 = 1 ∨ j % 4 = 2 ∨ j % 4 = 3 := by omega
  rcases hr with hr | hr | hr | hr
  · rw [hr] at ha; injection ha with ha; subst ha
    rw [show off + j = off + j / 4 * 4 from by omega]; exact c0
  · rw [hr] at ha; injection ha with ha; subst ha
    rw [show off + j = off + j / 4 * 4 + 1 from by omega]; exact c1
  · rw [hr] at ha; injection ha with ha; subst ha
    rw [show off + j = off + j / 4 * 4 + 2 from by omega]; exact c2
  · rw [hr] at ha; injection ha with ha; subst ha
    rw [show off + j = off + j / 4 * 4 + 3 from by omega]; exact c3

/-- append of a slice of ints onto ints of the call's own. -/
theorem run_append_ints (w : World) (base : Nat) (ty : TypeId) (v : Value) (xs : List Int) (hown : Own base w v xs) (ao : Option Addr) (m c : Nat) (ys : List Int) (hy : IntsAt w (.slice ao m c) ys)
    (hlen : xs.length + ys.length ≤ 4194304) (hbase : base ≤ w.heap.size) :
    ∃ v' w', (Builtin.append_ #[24, 24] ty #[v, .slice ao m c]).run Try.prog w = .ok v' w' ∧ Own base w' v' (xs ++ ys) ∧ w.grownBy w' v.ownBlock ∧ (v'.ownBlock = v.ownBlock ∨ v'.ownBlock = some w.heap.size) := by
  obtain ⟨hs, rfl⟩ := ints_src hy
  obtain ⟨v', w', hr, h1, h2, h3⟩ := run_append_src w base 24 ty 3 (.int .i64 0) 1 8 Try.underlying24 info_intE rfl (by decide) v xs.length (xs.map icell) hown.2 ao ys.length c (ys.map icell) (by simp) hs
    (by intro u hu; obtain ⟨x, _, rfl⟩ := List.mem_map.1 hu; rfl) (by unfold maxLen; omega) (by omega) hbase
  refine ⟨v', w', hr, ⟨fun x hx => ?_, ?_⟩, h2, h3⟩
  · rcases List.mem_append.1 hx with h | h
    · exact hown.1 x h
    · exact hy.1 x h
  · rw [List.length_append, List.map_append]; exact h1
/-- .. of edges onto edges. -/
theorem run_append_edges (w : World) (base : Nat) (ty : TypeId) (v : Value) (xs : List Edg) (hown : OwnE base w v xs) (ao : Option Addr) (m c : Nat) (ys : List Edg) (hy : EdgesAt w (.slice ao m c) ys)
    (hlen : xs.length + ys.length ≤ 4194304) (hbase : base ≤ w.heap.size) :
    ∃ v' w', (Builtin.append_ #[25, 25] ty #[v, .slice ao m c]).run Try.prog w = .ok v' w' ∧ OwnE base w' v' (xs ++ ys) ∧ w.grownBy w' v.ownBlock ∧ (v'.ownBlock = v.ownBlock ∨ v'.ownBlock = some w.heap.size) := by
  obtain ⟨hs, rfl⟩ := edges_src hy
  obtain ⟨v', w', hr, h1, h2, h3⟩ := run_append_src w base 25 ty 108 (ev zeroE) 4 32 Try.underlying25 info_edge rfl (by decide) v xs.length (ecells xs) hown.2 ao ys.length c (ecells ys) (by rw [ecells_length]) hs
    (ecells_oneCell ys) (by unfold maxLen; omega) (by omega) hbase
  refine ⟨v', w', hr, ⟨fun x hx => ?_, ?_⟩, h2, h3⟩
  · rcases List.mem_append.1 hx with h | h
    · exact hown.1 x h
    · exact hy.1 x h
  · rw [List.length_append, ecells_append]; exact h1
/-- The law for the walk, and for a region. -/
theorem wp_of_run_append {w : World} {o : Oper} {a : Act} {K : Act → World → Prop} {Q : Exit → Act → World → Prop} (s x : Operand) (t : TypeId)
    (ho : o.op = .call { callee := .builtin .append, args := #[s, x], argTypes := #[t, t] }) (v y v' : Value) (w' : World) (hs : a.eval s = v) (hx : a.eval x = y)
    (hr : (Builtin.append_ #[t, t] o.type #[v, y]).run Try.prog w = .ok v' w') (h : K (a.put o.dst v') w') : o.wp Try.prog a w K Q := by
  unfold Oper.wp execOp
  simp only [ho, resolve, invoke, builtin, Sem.run_bind, Sem.run_pure, Result.andThen_ok, List.map_toArray, List.map_cons, List.map_nil, hs, hx, hr]
  exact h
theorem wp_append_ints {w : World} {o : Oper} {a : Act} {K : Act → World → Prop} {Q : Exit → Act → World → Prop} (s x : Operand)
    (ho : o.op = .call { callee := .builtin .append, args := #[s, x], argTypes := #[24, 24] }) (base : Nat) (v : Value) (xs : List Int) (hs : a.eval s = v) (hown : Own base w v xs) (ao : Option Addr) (m c : Nat) (hx : a.eval x = .slice ao m c)
    (ys : List Int) (hy : IntsAt w (.slice ao m c) ys) (hlen : xs.length + ys.length ≤ 4194304) (hbase : base ≤ w.heap.size)
    (h : ∀ v' w', Own base w' v' (xs ++ ys) → w.grownBy w' v.ownBlock → (v'.ownBlock = v.ownBlock ∨ v'.ownBlock = some w.heap.size) → K (a.put o.dst v') w') : o.wp Try.prog a w K Q := by
  obtain ⟨v', w', hr, h1, h2, h3⟩ := run_append_ints w base o.type v xs hown ao m c ys hy hlen hbase
  exact wp_of_run_append s x _ ho v _ v' w' hs hx hr (h v' w' h1 h2 h3)
theorem wp_append_edges {w : World} {o : Oper} {a : Act} {K : Act → World → Prop} {Q : Exit → Act → World → Prop} (s x : Operand)
    (ho : o.op = .call { callee := .builtin .append, args := #[s, x], argTypes := #[25, 25] }) (base : Nat) (v : Value) (xs : List Edg) (hs : a.eval s = v) (hown : OwnE base w v xs) (ao : Option Addr) (m c : Nat) (hx : a.eval x = .slice ao m c)
    (ys : List Edg) (hy : EdgesAt w (.slice ao m c) ys) (hlen : xs.length + ys.length ≤ 4194304) (hbase : base ≤ w.heap.size)
    (h : ∀ v' w', OwnE base w' v' (xs ++ ys) → w.grownBy w' v.ownBlock → (v'.ownBlock = v.ownBlock ∨ v'.ownBlock = some w.heap.size) → K (a.put o.dst v') w') : o.wp Try.prog a w K Q := by
  obtain ⟨v', w', hr, h1, h2, h3⟩ := run_append_edges w base o.type v xs hown ao m c ys hy hlen hbase
  exact wp_of_run_append s x _ ho v _ v' w' hs hx hr (h v' w' h1 h2 h3)
theorem wpList_append_ints {w : World} {ops : Array Oper} {rest : List Oper} {o : Oper} {a : Act} {Q : Exit → Act → World → Prop} (hgd : o.guard = none) (s x : Operand)
    (ho : o.op = .call { callee := .builtin .append, args := #[s, x], argTypes := #[24, 24] }) (base : Nat) (v : Value) (xs : List Int) (hs : a.eval s = v) (hown : Own base w v xs) (ao : Option Addr) (m c : Nat) (hx : a.eval x = .slice ao m c)
    (ys : List Int) (hy : IntsAt w (.slice ao m c) ys) (hlen : xs.length + ys.length ≤ 4194304) (hbase : base ≤ w.heap.size)
    (h : ∀ v' w', Own base w' v' (xs ++ ys) → w.grownBy w' v.ownBlock → (v'.ownBlock = v.ownBlock ∨ v'.ownBlock = some w.heap.size) → wpList Try.prog ops Q rest (a.put o.dst v') w') : wpList Try.prog ops Q (o :: rest) a w :=
  wpList_plain hgd fun _ hK => wp_append_ints s x ho base v xs hs hown ao m c hx ys hy hlen hbase fun v' w' h2 h3 h4 => hK _ _ (h v' w' h2 h3 h4)
theorem wpList_append_edges {w : World} {ops : Array Oper} {rest : List Oper} {o : Oper} {a : Act} {Q : Exit → Act → World → Prop} (hgd : o.guard = none) (s x : Operand)
    (ho : o.op = .call { callee := .builtin .append, args := #[s, x], argTypes := #[25, 25] }) (base : Nat) (v : Value) (xs : List Edg) (hs : a.eval s = v) (hown : OwnE base w v xs) (ao : Option Addr) (m c : Nat) (hx : a.eval x = .slice ao m c)
    (ys : List Edg) (hy : EdgesAt w (.slice ao m c) ys) (hlen : xs.length + ys.length ≤ 4194304) (hbase : base ≤ w.heap.size)
    (h : ∀ v' w', OwnE base w' v' (xs ++ ys) → w.grownBy w' v.ownBlock → (v'.ownBlock = v.ownBlock ∨ v'.ownBlock = some w.heap.size) → wpList Try.prog ops Q rest (a.put o.dst v') w') : wpList Try.prog ops Q (o :: rest) a w :=
  wpList_plain hgd fun _ hK => wp_append_edges s x ho base v xs hs hown ao m c hx ys hy hlen hbase fun v' w' h2 h3 h4 => hK _ _ (h v' w' h2 h3 h4)
end Go.Proofs.Ytilkheclimammaa
