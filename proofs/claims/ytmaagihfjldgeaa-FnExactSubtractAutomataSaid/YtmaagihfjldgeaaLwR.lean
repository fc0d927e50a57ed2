/- Rows of the model's nodes: pairs of states, each with the node and the letter that it was found by. l10Has, l10Word. -/
import Derived.Test.YtmaagihfjldgeaaLwM
import Derived.Test.YtmaagihfjldgeaaK1
import Derived.Test.YtmaagihfjldgeaaA3
import Derived.Test.YtmaagihfjldgeaaK3
import Derived.BigQuiet
import Derived.Deep.QuietTactic
namespace Go.Proofs.Ytmaagihfjldgeaa
set_option maxRecDepth 100000
open Go.ChangeShapes Go.WideShapes Go.ChangeAt Go.RowKit Go.Maps
set_option linter.unusedVariables false
set_option linter.unusedSimpArgs false

structure Ln where
  a : Int
  b : Int
  fr : Int
  ch : Int
def Ln.pr (x : Ln) : List Int := [x.a, x.b]
abbrev lnv (x : Ln) : Value := .agg #[.int .i64 x.a, .int .i64 x.b, .bool false, .int .i64 x.fr, .int .i64 x.ch]
def Ln.cs (x : Ln) : List Value := [.int .i64 x.a, .int .i64 x.b, .bool false, .int .i64 x.fr, .int .i64 x.ch]
def lcells (xs : List Ln) : List Value := xs.flatMap Ln.cs
theorem lcs_len (x : Ln) : x.cs.length = 5 := rfl
theorem lcells_length (xs : List Ln) : (lcells xs).length = xs.length * 5 := fcells_length lcs_len xs
theorem lcells_append (xs ys : List Ln) : lcells (xs ++ ys) = lcells xs ++ lcells ys := by simp [lcells]
theorem lcells_oneCell (xs : List Ln) : ∀ u ∈ lcells xs, u.oneCell' = true := by
  intro u hu
  simp [lcells, Ln.cs] at hu
  obtain ⟨e, _, h⟩ := hu
  rcases h with h | h | h | h | h <;> subst h <;> rfl
def OwnLn (base : Nat) (w : World) (v : Value) (xs : List Ln) : Prop := w.ownsRow base 141 5 v xs.length (lcells xs)
theorem ownLn_cells {w : World} {base g n cap : Nat} {xs : List Ln} (h : OwnLn base w (.slice (some ⟨g, 0, none⟩) n cap) xs) (hn : n = xs.length) (i : Nat) (hi : i < xs.length) :
    w.cell? ⟨g, i * 5, none⟩ = some (.int .i64 xs[i].a) ∧ w.cell? ⟨g, i * 5 + 1, none⟩ = some (.int .i64 xs[i].b) ∧ w.cell? ⟨g, i * 5 + 2, none⟩ = some (.bool false) ∧
      w.cell? ⟨g, i * 5 + 3, none⟩ = some (.int .i64 xs[i].fr) ∧ w.cell? ⟨g, i * 5 + 4, none⟩ = some (.int .i64 xs[i].ch) := by
  subst hn
  have h0 := fcells_at lcs_len xs i 0 hi (by omega)
  have h1 := fcells_at lcs_len xs i 1 hi (by omega)
  have h2 := fcells_at lcs_len xs i 2 hi (by omega)
  have h3 := fcells_at lcs_len xs i 3 hi (by omega)
  have h4 := fcells_at lcs_len xs i 4 hi (by omega)
  rw [Nat.add_zero] at h0
  exact ⟨(h.cellAt _ (by omega)).trans h0, (h.cellAt _ (by omega)).trans h1, (h.cellAt _ (by omega)).trans h2, (h.cellAt _ (by omega)).trans h3, (h.cellAt _ (by omega)).trans h4⟩
theorem OwnLn.since {base : Nat} {w w' : World} {v : Value} {xs : List Ln} (h : OwnLn base w v xs) (k : Since w w') : OwnLn base w' v xs := row_since h k
theorem OwnLn.len {base : Nat} {w : World} {v : Value} {xs : List Ln} (h : OwnLn base w v xs) (hn : 0 < xs.length) : ∃ g cap, v = .slice (some ⟨g, 0, none⟩) xs.length cap ∧ base ≤ g ∧ g < w.heap.size := by
  obtain ⟨g, cap, e1, hg⟩ := own_block h hn
  exact ⟨g, cap, e1, hg, (h.lt g (by rw [e1]; rfl)).2⟩
theorem info_ln : (Try.prog.info? 141).map (fun i => (i.zero, i.size, i.bytes)) = some (some (lnv ⟨0, 0, 0, 0⟩), 5, 40) := by kernel_rfl
theorem wpList_append_ln {base : Nat} {wr : World} {ops : Array Oper} {rest : List Oper} {o : Oper} {a : Act} {Q : Exit → Act → World → Prop} (hgd : o.guard = none) (s x : Operand)
    (ho : o.op = .call { callee := .builtin .append, args := #[s, x], argTypes := #[84, 84] }) (v : Value) (xs : List Ln) (hs : a.eval s = v) (hown : OwnLn base wr v xs)
    (z : Ln) (hx : a.eval x = .slice (some ⟨wr.heap.size, 0, none⟩) 1 1) (hlen : xs.length ≤ 2000000) (hb : base ≤ wr.heap.size)
    (h : ∀ v' w', OwnLn base w' v' (xs ++ [z]) → wr.grownBy w' v.ownBlock → wpList Try.prog ops Q rest (a.put o.dst v') w') : wpList Try.prog ops Q (o :: rest) a (wr.alloc (.cells #[.int .i64 z.a, .int .i64 z.b, .bool false, .int .i64 z.fr, .int .i64 z.ch] 141)) := by
  obtain ⟨i0, hi, hz0, hz1, hz2⟩ := info_parts info_ln
  have hown' : OwnLn base (wr.alloc (.cells #[.int .i64 z.a, .int .i64 z.b, .bool false, .int .i64 z.fr, .int .i64 z.ch] 141)) v xs := hown.since ((Since.refl wr).alloc _)
  have hB : Blk (wr.alloc (.cells #[.int .i64 z.a, .int .i64 z.b, .bool false, .int .i64 z.fr, .int .i64 z.ch] 141)) wr.heap.size 141 #[.int .i64 z.a, .int .i64 z.b, .bool false, .int .i64 z.fr, .int .i64 z.ch] := Blk.new rfl _ _
  refine wpList_append_own _ hgd s x 84 ho base 141 i0 (lnv ⟨0, 0, 0, 0⟩) 5 40 Try.underlying84 hi hz0 hz1 hz2 rfl (by decide) v xs.length (lcells xs) hs hown' ⟨wr.heap.size, 0, none⟩ 1 1 (lcells [z]) hx rfl ?_ (lcells_oneCell _) (by unfold maxLen; omega) (by omega) (by simp; omega) ?_
  · intro j u hj
    rw [add_plain, Nat.zero_add, hB.cell, ← hj, ← Array.getElem?_toList]; rfl
  · intro v' w' h1 h2 _
    refine h v' w' ?_ ?_
    · show w'.ownsRow _ _ _ _ (xs ++ [z]).length (lcells (xs ++ [z]))
      rw [List.length_append, lcells_append]
      exact h1
    · refine ⟨h2.os, h2.tape, h2.output, Nat.le_trans (by simp) h2.size, fun i hi2 hn2 => ?_⟩
      exact (h2.block i (by simp; omega) hn2).trans (Below.heap_alloc wr _ i hi2)
set_option maxHeartbeats 2000000 in
set_option maxRecDepth 100000 in
theorem has10_any (base : Nat) (v : Value) (xs : List Ln) (z : Ln) (w : World) (h : OwnLn base w v xs) (hl : xs.length ≤ 2000000) :
    Calls Try.prog 154 #[v, lnv z] w fun e w' => e = .returned (.bool (decide (z.pr ∈ xs.map Ln.pr))) ∧ Since w w' := by
  rcases Nat.eq_zero_or_pos xs.length with h0 | h0
  · obtain rfl := List.eq_nil_of_length_eq_zero h0
    obtain ⟨ao, cap, rfl⟩ : ∃ ao cap, v = .slice ao 0 cap := by
      rcases h.2 with ⟨hv, hn⟩ | ⟨g, cap, cur, rfl, _⟩
      · exact ⟨none, 0, by rw [hv]⟩
      · exact ⟨_, cap, rfl⟩
    clear h
    have hs0 : Since w (w.alloc (.cells #[.int .i64 z.a, .int .i64 z.b, .bool false, .int .i64 z.fr, .int .i64 z.ch] 141)) := (Since.refl w).alloc _
    go_enter Try.func154, Try.ntmps154
    go_wp2
    go_loopw [5] (fun i wr => i = .int .i64 0 ∧ wr = w.alloc (.cells #[.int .i64 z.a, .int .i64 z.b, .bool false, .int .i64 z.fr, .int .i64 z.ch] 141)) (fun _ _ => 0)
    case atStart => exact ⟨rfl, rfl⟩
    case round =>
      obtain ⟨rfl, rfl⟩ := hrel
      go_wp2
      go_ret
      exact ⟨ret_bool (by simp), hs0⟩
  · obtain ⟨g, cap, rfl, hg, hgl⟩ := h.len h0
    have HC : Hid (∀ i (hi : i < xs.length), w.cell? ⟨g, i * 5, none⟩ = some (.int .i64 xs[i].a) ∧ w.cell? ⟨g, i * 5 + 1, none⟩ = some (.int .i64 xs[i].b) ∧ w.cell? ⟨g, i * 5 + 2, none⟩ = some (.bool false)) := fun i hi => by
      obtain ⟨h1, h2, h3, _⟩ := ownLn_cells h rfl i hi
      exact ⟨h1, h2, h3⟩
    clear h
    obtain ⟨n, hn⟩ : ∃ n, n = xs.length := ⟨_, rfl⟩
    rw [← hn] at hl h0 ⊢
    have HN := Lib.hid hn
    clear hn h0
    obtain ⟨y, hy⟩ : ∃ y, y = w.alloc (.cells #[.int .i64 z.a, .int .i64 z.b, .bool false, .int .i64 z.fr, .int .i64 z.ch] 141) := ⟨_, rfl⟩
    have hs0 : Since w y := by rw [hy]; exact (Since.refl w).alloc _
    have B0 : Hid (Blk y w.heap.size 141 #[.int .i64 z.a, .int .i64 z.b, .bool false, .int .i64 z.fr, .int .i64 z.ch]) := by rw [hy]; exact Blk.new rfl _ _
    have HY := Lib.hid hy
    clear hy
    go_enter Try.func154, Try.ntmps154
    go_wp2
    rw [← HY.out]
    go_loopw [5] (fun i wr => ∃ k : Nat, k ≤ n ∧ i = .int .i64 k ∧ Hid (∀ j (hj : j < xs.length), j < k → xs[j].pr ≠ z.pr) ∧ Hid (Since w wr) ∧ Hid (Blk wr w.heap.size 141 #[.int .i64 z.a, .int .i64 z.b, .bool false, .int .i64 z.fr, .int .i64 z.ch])) (fun i _ => n - (intOf i).toNat)
    case atStart => exact ⟨0, Nat.zero_le _, rfl, fun j hj hk => by omega, hs0, B0⟩
    case round =>
      obtain ⟨k, hk, rfl, HJ, HSw, B1⟩ := hrel
      have hs1 := HSw.out
      have q0 := B1.out.cell 0
      have q1 := B1.out.cell 1
      have q2 := B1.out.cell 2
      by_cases hlt : k < n
      · have hki : (k : Int) < (n : Int) := by omega
        have hk0 : (0 : Int) ≤ (k : Int) := by omega
        have hkx : k < xs.length := by rw [← HN.out]; exact hlt
        obtain ⟨c0, c1, c2⟩ := HC.out k hkx
        have hc : ∀ o, wr.cell? ⟨g, o, none⟩ = w.cell? ⟨g, o, none⟩ := fun o => Below.cell hs1 (p := ⟨g, o, none⟩) hgl
        obtain ⟨p, hp⟩ : ∃ p, p = xs[k].a := ⟨_, rfl⟩
        obtain ⟨q, hq⟩ : ∃ q, q = xs[k].b := ⟨_, rfl⟩
        rw [← hc, ← hp] at c0
        rw [← hc, ← hq] at c1
        rw [← hc] at c2
        clear hc
        by_cases e1 : p = z.a
        · by_cases e2 : q = z.b
          · have HF : Hid (decide (z.pr ∈ xs.map Ln.pr) = true) := by
              refine decide_eq_true (List.mem_map.2 ⟨xs[k], List.getElem_mem hkx, ?_⟩)
              unfold Ln.pr; rw [← hp, ← hq, e1, e2]
            have h1 : (p == z.a) = true := by simpa using e1
            have h2 : (q == z.b) = true := by simpa using e2
            have h3 : (false == false) = true := rfl
            clear hp hq e1 e2
            go_wp2_with fail
            go_quiet (fail)
            go_wp2
            go_ret
            exact ⟨ret_bool HF.out.symm, hs1.drewN _⟩
          · have HJ2 : Hid (∀ j (hj : j < xs.length), j < k + 1 → xs[j].pr ≠ z.pr) := by
              intro j hj hk2
              by_cases e3 : j = k
              · subst e3; intro e; unfold Ln.pr at e
                simp only [List.cons.injEq, and_true] at e
                exact e2 (by rw [hq, e.2])
              · exact HJ.out j hj (by omega)
            have h1 : (p == z.a) = true := by simpa using e1
            have h2 : (q == z.b) = false := by simpa using e2
            clear hp hq e1 e2
            go_wp2_with fail
            go_quiet (fail)
            go_wp2
            go_roundw
            case rel => exact ⟨k + 1, by omega, by go_num, HJ2.out, hs1.drewN _, B1.out.since ((Since.refl _).drewN _)⟩
            case measure => simp [intOf]; omega
        · have HJ2 : Hid (∀ j (hj : j < xs.length), j < k + 1 → xs[j].pr ≠ z.pr) := by
            intro j hj hk2
            by_cases e3 : j = k
            · subst e3; intro e; unfold Ln.pr at e
              simp only [List.cons.injEq, and_true] at e
              exact e1 (by rw [hp, e.1])
            · exact HJ.out j hj (by omega)
          have h1 : (p == z.a) = false := by simpa using e1
          clear hp hq e1
          go_wp2_with fail
          go_quiet (fail)
          go_wp2
          go_roundw
          case rel => exact ⟨k + 1, by omega, by go_num, HJ2.out, hs1.drewN _, B1.out.since ((Since.refl _).drewN _)⟩
          case measure => simp [intOf]; omega
      · have HF : Hid (decide (z.pr ∈ xs.map Ln.pr) = false) := by
          refine decide_eq_false (fun hm => ?_)
          obtain ⟨x, hx, e⟩ := List.mem_map.1 hm
          obtain ⟨j, hj, rfl⟩ := List.getElem_of_mem hx
          exact HJ.out j hj (by have := HN.out; omega) e
        obtain rfl : k = n := by omega
        go_wp2
        go_ret
        exact ⟨ret_bool HF.out.symm, hs1⟩
/-- The nodes tell the words: the first has the empty one, each other one's word is that of the node that it was found from, and its letter. -/
structure LnW (xs : List Ln) (L : List (List Int × List Int)) : Prop where
  len : xs.length = L.length
  pr : ∀ i (h : i < xs.length) (h2 : i < L.length), L[i].1 = xs[i].pr
  zero : ∀ y, L[0]? = some y → y.2 = []
  wd : ∀ i (h : i < xs.length) (h2 : i < L.length), 0 < i → ∃ f : Nat, ∃ hf : f < L.length, f < i ∧ xs[i].fr = (f : Int) ∧ L[i].2 = L[f].2 ++ [xs[i].ch] ∧ InI xs[i].ch
theorem LnW.prs {xs : List Ln} {L : List (List Int × List Int)} (h : LnW xs L) : xs.map Ln.pr = L.map (·.1) := by
  apply List.ext_getElem
  · simp [h.len]
  · intro i h1 h2
    simp only [List.length_map] at h1 h2
    simp only [List.getElem_map]
    exact (h.pr i h1 h2).symm
theorem LnW.snoc {xs : List Ln} {L : List (List Int × List Int)} (h : LnW xs L) {p k : Nat} {x : List Int} {ws : List Int} (hp : L[p]? = some (x, ws)) (hk : k < 9) (a b : Int) : LnW (xs ++ [⟨a, b, (p : Int), (k : Int)⟩]) (L ++ [([a, b], ws ++ [(k : Int)])]) := by
  have hpl : p < L.length := (List.getElem?_eq_some_iff.1 hp).1
  have hpe : L[p] = (x, ws) := (List.getElem?_eq_some_iff.1 hp).2
  have hl := h.len
  refine ⟨by simp [hl], fun i h1 h2 => ?_, fun y hy => ?_, fun i h1 h2 h0 => ?_⟩
  · by_cases e : i < L.length
    · rw [List.getElem_append_left e, List.getElem_append_left (by omega)]; exact h.pr i (by omega) e
    · have e2 : i = L.length := by simp at h2; omega
      subst e2
      rw [List.getElem_append_right (Nat.le_refl _), List.getElem_append_right (by omega)]
      simp [hl, Ln.pr]
  · rw [List.getElem?_append_left (by omega)] at hy; exact h.zero y hy
  · by_cases e : i < L.length
    · obtain ⟨f, hf, h3, h4, h5, h6⟩ := h.wd i (by omega) e h0
      refine ⟨f, by simp; omega, h3, ?_, ?_, ?_⟩
      · rw [List.getElem_append_left (by omega)]; exact h4
      · rw [List.getElem_append_left e, List.getElem_append_left hf, List.getElem_append_left (by omega)]; exact h5
      · rw [List.getElem_append_left (by omega)]; exact h6
    · have e2 : i = L.length := by simp at h2; omega
      subst e2
      have ex : (xs ++ [(⟨a, b, (p : Int), (k : Int)⟩ : Ln)])[L.length]'h1 = ⟨a, b, (p : Int), (k : Int)⟩ := by
        rw [List.getElem_append_right (by omega)]; simp [hl]
      refine ⟨p, by simp; omega, hpl, by rw [ex], ?_, ?_⟩
      · rw [List.getElem_append_right (Nat.le_refl _), List.getElem_append_left hpl, hpe, ex]; simp
      · rw [ex]; show InI (k : Int); unfold InI; omega
set_option maxHeartbeats 2000000 in
set_option maxRecDepth 100000 in
theorem word10_any (base : Nat) (v : Value) (xs : List Ln) (L : List (List Int × List Int)) (k0 : Nat) (w : World) (h : OwnLn base w v xs) (hl : xs.length ≤ 2000000) (HL : LnW xs L) (hk0 : k0 < L.length) :
    Calls Try.prog 152 #[v, .int .i64 (k0 : Nat)] w fun e w' => ∃ u, e = .returned u ∧ Own w.heap.size w' u L[k0].2 ∧ Since w w' := by
  have hln := HL.len
  obtain ⟨g, cap, rfl, hg, hgl⟩ := h.len (by omega)
  have HC : Hid (∀ i (hi : i < xs.length), w.cell? ⟨g, i * 5, none⟩ = some (.int .i64 xs[i].a) ∧ w.cell? ⟨g, i * 5 + 1, none⟩ = some (.int .i64 xs[i].b) ∧ w.cell? ⟨g, i * 5 + 2, none⟩ = some (.bool false) ∧
      w.cell? ⟨g, i * 5 + 3, none⟩ = some (.int .i64 xs[i].fr) ∧ w.cell? ⟨g, i * 5 + 4, none⟩ = some (.int .i64 xs[i].ch)) := fun i hi => ownLn_cells h rfl i hi
  clear h
  have HLW := Lib.hid HL
  obtain ⟨R, hR⟩ : ∃ R, R = L[k0].2 := ⟨_, rfl⟩
  rw [← hR]
  have HR0 : Hid (∃ hk : k0 < L.length, L[k0].2 ++ ([] : List Int) = R) := ⟨hk0, by rw [hR, List.append_nil]⟩
  have HLe : Hid (xs.length = L.length) := hln
  obtain ⟨n, hn⟩ : ∃ n, n = xs.length := ⟨_, rfl⟩
  have hkn : k0 < n := by omega
  rw [← hn] at hl ⊢
  have HN := Lib.hid hn
  clear hn hR HL hk0 hln
  have hs0 : Since w (w.alloc (.cells #[] 3)) := (Since.refl w).alloc _
  have HO0 : Hid (Own w.heap.size (w.alloc (.cells #[] 3)) (.slice (some ⟨w.heap.size, 0, none⟩) 0 0) []) := own_lit w w (Since.refl w) _ rfl
  go_enter Try.func152, Try.ntmps152
  go_wp2
  go_loopw [1, 5] (fun i u wr => ∃ (k : Nat) (out : List Int), k < n ∧ out.length + k ≤ n ∧ i = .int .i64 k ∧ Hid (∃ hk : k < L.length, L[k].2 ++ out = R) ∧ Hid (Own w.heap.size wr u out) ∧ Hid (Since w wr)) (fun i _ _ => (intOf i).toNat)
  case atStart => exact ⟨k0, [], hkn, by simp; omega, rfl, HR0.out, HO0.out, hs0⟩
  case round =>
    obtain ⟨k, out, hk, hol, rfl, HR, HO, HS⟩ := hrel
    have hs1 := HS.out
    by_cases hz : k = 0
    · subst hz
      have HF : Hid (out = R) := by
        obtain ⟨hk2, e⟩ := HR.out
        have := HLW.out.zero L[0] (List.getElem?_eq_getElem hk2)
        rw [this, List.nil_append] at e; exact e
      go_wp2
      go_ret
      rw [← HF.out]
      exact ⟨_, rfl, HO.out, hs1⟩
    · have hki : (0 : Int) < (k : Int) := by omega
      have hk0 : (0 : Int) ≤ (k : Int) := by omega
      have hkn2 : (k : Int) < (n : Int) := by omega
      obtain ⟨f, HFx⟩ : ∃ f : Nat, Hid (∃ hf : f < L.length, ∃ hk1 : k < xs.length, ∃ hk2 : k < L.length, f < k ∧ xs[k].fr = (f : Int) ∧ L[k].2 = L[f].2 ++ [xs[k].ch] ∧ InI xs[k].ch) := by
        obtain ⟨hk2, _⟩ := HR.out
        have hk1 : k < xs.length := by have := HLe.out; omega
        obtain ⟨f, hf, h1, h2, h3, h4⟩ := HLW.out.wd k hk1 hk2 (by omega)
        exact ⟨f, hf, hk1, hk2, h1, h2, h3, h4⟩
      obtain ⟨hf, hk1, hk2, hfk, hfr, hwd, hci⟩ := HFx.out
      obtain ⟨x0, x1, x2, c3, c4⟩ := HC.out k hk1
      clear x0 x1 x2
      have hgw : g < wr.heap.size := Nat.lt_of_lt_of_le hgl hs1.size
      obtain ⟨c, hc⟩ : ∃ c, c = xs[k].ch := ⟨_, rfl⟩
      have hcc : ∀ o, wr.cell? ⟨g, o, none⟩ = w.cell? ⟨g, o, none⟩ := fun o => Below.cell hs1 (p := ⟨g, o, none⟩) hgl
      rw [← hcc, hfr] at c3
      rw [← hcc, ← hc] at c4
      have HR2 : Hid (∃ hk : f < L.length, L[f].2 ++ ([c] ++ out) = R) := by
        obtain ⟨hk3, e⟩ := HR.out
        refine ⟨hf, ?_⟩
        rw [← e, hwd, hc, List.append_assoc]
      rw [← hc] at hci
      have HCi := Lib.hid hci
      have hsl : Since wr (wr.alloc (.cells #[.int .i64 c] 3)) := (Since.refl wr).alloc _
      have hB : Blk (wr.alloc (.cells #[.int .i64 c] 3)) wr.heap.size 3 #[.int .i64 c] := Blk.new rfl _ _
      have c5 : (wr.alloc (.cells #[.int .i64 c] 3)).cell? ⟨g, k * 5 + 3, none⟩ = some (.int .i64 (f : Int)) := (Below.cell hsl (p := ⟨g, k * 5 + 3, none⟩) hgw).trans c3
      have HOL : Hid (Own wr.heap.size (wr.alloc (.cells #[.int .i64 c] 3)) (.slice (some ⟨wr.heap.size, 0, none⟩) 1 1) [c]) := ownT_lit 3 _ wr (Nat.le_refl _) c HCi.out
      obtain ⟨ao, oc, hu⟩ := HO.out.at.len
      subst hu
      obtain ⟨m, hm⟩ : ∃ m, m = out.length := ⟨_, rfl⟩
      have HM := Lib.hid hm
      rw [← hm] at hol HO ⊢
      have HIA : Hid (IntsAt (wr.alloc (.cells #[.int .i64 c] 3)) (.slice ao m oc) out) := by
        have h1 := HO.out.at.since hsl
        exact h1
      clear hfr hwd hci hk2 hk1 hc hcc hm hf
      go_wp2_with (at_builtin; go_loud (refine wpList_append_ints rfl (.tmp 14) (.tmp 15) rfl wr.heap.size _ [c] rfl HOL.out ao m oc rfl out HIA.out (by simp; have := HM.out; omega) (by simp) ?_; intro v5 w5 ho5 hg5 hb5; have HO5 := Lib.hid ho5; have hs5 : Since wr w5 := hsl.grown hg5 (fun j hj => by have hj2 : some wr.heap.size = some j := hj; injection hj2 with e; omega); have d3 : w5.cell? ⟨g, k * 5 + 3, none⟩ = some (.int .i64 (f : Int)) := (Below.cell hs5 (p := ⟨g, k * 5 + 3, none⟩) hgw).trans c3; clear ho5 hg5 hb5))
      go_roundw
      case rel => exact ⟨f, [c] ++ out, by omega, by simp; have := HM.out; omega, rfl, HR2.out, HO5.out.mono (by have := hs1.size; omega), hs1.trans hs5⟩
      case measure => simp [intOf]; omega
end Go.Proofs.Ytmaagihfjldgeaa
