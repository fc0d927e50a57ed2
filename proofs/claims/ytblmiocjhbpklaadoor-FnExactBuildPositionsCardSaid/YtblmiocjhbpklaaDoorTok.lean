/- Tokens as plain data: four ints each; how lists of them lie in cells; expressions; append and copy of tokens. -/
import Derived.Test.YtblmiocjhbpklaaDoorK1
import Derived.Laws.CopyOwn
import Derived.Test.YtblmiocjhbpklaaDoorCopyLaw
namespace Go.Proofs.YtblmiocjhbpklaaDoor
set_option maxRecDepth 100000
open Go.ChangeShapes Go.WideShapes Go.ChangeAt Go.RowKit
set_option linter.unusedVariables false
set_option linter.unusedSimpArgs false


structure Tok where
  kd : Int
  lr : Int
  lo : Int
  hi : Int
theorem Tok.ext4 {a b : Tok} (h1 : a.kd = b.kd) (h2 : a.lr = b.lr) (h3 : a.lo = b.lo) (h4 : a.hi = b.hi) : a = b := by
  cases a; cases b; simp_all
theorem Tok.eq_iff (a b : Tok) : a = b ↔ (a.kd = b.kd ∧ a.lr = b.lr ∧ a.lo = b.lo ∧ a.hi = b.hi) :=
  ⟨fun h => by subst h; exact ⟨rfl, rfl, rfl, rfl⟩, fun h => Tok.ext4 h.1 h.2.1 h.2.2.1 h.2.2.2⟩
instance : DecidableEq Tok := fun a b => decidable_of_iff _ (Tok.eq_iff a b).symm
def Tok.cs (e : Tok) : List Value := [.int .i64 e.kd, .int .i64 e.lr, .int .i64 e.lo, .int .i64 e.hi]
/-- The value of an edge. -/
abbrev kv (e : Tok) : Value := .agg #[.int .i64 e.kd, .int .i64 e.lr, .int .i64 e.lo, .int .i64 e.hi]
def Tok.In (e : Tok) : Prop := InI e.kd ∧ InI e.lr ∧ InI e.lo ∧ InI e.hi
def zeroK : Tok := ⟨0, 0, 0, 0⟩
theorem zeroK_in : zeroK.In := by unfold Tok.In InI zeroK; simp
def kcells (xs : List Tok) : List Value := xs.flatMap Tok.cs
theorem kcells_nil : kcells [] = [] := rfl
theorem kcells_cons (x : Tok) (xs : List Tok) : kcells (x :: xs) = x.cs ++ kcells xs := rfl
theorem kcells_append (xs ys : List Tok) : kcells (xs ++ ys) = kcells xs ++ kcells ys := by simp [kcells]
theorem kcells_length (xs : List Tok) : (kcells xs).length = xs.length * 4 := by
  induction xs with
  | nil => rfl
  | cons x xs ih => rw [kcells_cons, List.length_append, ih, List.length_cons]; simp [Tok.cs]; omega
theorem kcells_take (xs : List Tok) (k : Nat) : (kcells xs).take (k * 4) = kcells (xs.take k) := by
  induction xs generalizing k with
  | nil => simp [kcells]
  | cons x xs ih =>
    cases k with
    | zero => simp [kcells]
    | succ k =>
      rw [List.take_succ_cons, kcells_cons, kcells_cons, ← ih k, List.take_append, List.take_of_length_le (by simp [Tok.cs]; omega)]
      rw [show (k + 1) * 4 - x.cs.length = k * 4 from by simp [Tok.cs]; omega]
theorem kcells_drop (xs : List Tok) (k : Nat) : (kcells xs).drop (k * 4) = kcells (xs.drop k) := by
  induction xs generalizing k with
  | nil => simp [kcells]
  | cons x xs ih =>
    cases k with
    | zero => simp [kcells]
    | succ k =>
      rw [List.drop_succ_cons, kcells_cons, ← ih k, List.drop_append, List.drop_of_length_le (by simp [Tok.cs]; omega)]
      rw [show (k + 1) * 4 - x.cs.length = k * 4 from by simp [Tok.cs]; omega, List.nil_append]
theorem kcells_at (xs : List Tok) (i j : Nat) (h : i < xs.length) (hj : j < 4) : (kcells xs)[i * 4 + j]? = (xs[i]).cs[j]? := by
  rw [← List.getElem?_drop, kcells_drop, List.drop_eq_getElem_cons h, kcells_cons, List.getElem?_append_left (by simp [Tok.cs]; omega)]
theorem kcells_set (xs : List Tok) (i : Nat) (h : i < xs.length) (e : Tok) :
    ((((kcells xs).set (i * 4) (.int .i64 e.kd)).set (i * 4 + 1) (.int .i64 e.lr)).set (i * 4 + 2) (.int .i64 e.lo)).set (i * 4 + 3) (.int .i64 e.hi) = kcells (xs.set i e) := by
  have hx : xs = xs.take i ++ xs[i] :: xs.drop (i + 1) := by rw [← List.drop_eq_getElem_cons h, List.take_append_drop]
  have hl : (kcells (xs.take i)).length = i * 4 := by rw [kcells_length, List.length_take, Nat.min_eq_left (Nat.le_of_lt h)]
  have e1 : kcells xs = kcells (xs.take i) ++ ((xs[i]).cs ++ kcells (xs.drop (i + 1))) := by
    rw [← kcells_cons, ← kcells_append, ← hx]
  have e2 : kcells (xs.set i e) = kcells (xs.take i) ++ (e.cs ++ kcells (xs.drop (i + 1))) := by
    rw [← kcells_cons, ← kcells_append, List.set_eq_take_append_cons_drop, if_pos h]
  rw [e1, e2]
  rw [List.set_append_right _ _ (by omega), hl, Nat.sub_self]
  rw [List.set_append_right _ _ (by omega), hl, show i * 4 + 1 - i * 4 = 1 from by omega]
  rw [List.set_append_right _ _ (by omega), hl, show i * 4 + 2 - i * 4 = 2 from by omega]
  rw [List.set_append_right _ _ (by omega), hl, show i * 4 + 3 - i * 4 = 3 from by omega]
  rfl
theorem kcells_one (e : Tok) : kcells [e] = e.cs := by simp [kcells]
theorem kcells_snoc (xs : List Tok) (e : Tok) : kcells (xs ++ [e]) = kcells xs ++ e.cs := by rw [kcells_append, kcells_one]
theorem kcells_oneCell (xs : List Tok) : ∀ u ∈ kcells xs, u.oneCell' = true := by
  intro u hu
  simp [kcells, Tok.cs] at hu
  obtain ⟨e, _, h⟩ := hu
  rcases h with h | h | h | h <;> subst h <;> rfl
theorem kcells_zero (n : Nat) : kcells (List.replicate n zeroK) = List.replicate (n * 4) (.int .i64 0) := by
  induction n with
  | zero => rfl
  | succ n ih => rw [List.replicate_succ, kcells_cons, ih, show (n + 1) * 4 = 4 + n * 4 from by omega, ← List.replicate_append_replicate]; rfl
/-- v is a slice of edges that reads as xs. -/
def ToksAt (w : World) (v : Value) (xs : List Tok) : Prop :=
  (∀ x ∈ xs, x.In) ∧ ((xs = [] ∧ ∃ ao cap, v = .slice ao 0 cap) ∨ ∃ b off cap, v = .slice (some ⟨b, off, none⟩) xs.length cap ∧ b < w.heap.size ∧
    ∀ i (h : i < xs.length), w.cell? ⟨b, off + i * 4, none⟩ = some (.int .i64 xs[i].kd) ∧ w.cell? ⟨b, off + i * 4 + 1, none⟩ = some (.int .i64 xs[i].lr) ∧
      w.cell? ⟨b, off + i * 4 + 2, none⟩ = some (.int .i64 xs[i].lo) ∧ w.cell? ⟨b, off + i * 4 + 3, none⟩ = some (.int .i64 xs[i].hi))
theorem ToksAt.since {w w' : World} {v : Value} {xs : List Tok} (h : ToksAt w v xs) (k : Since w w') : ToksAt w' v xs := by
  obtain ⟨h1, h2 | ⟨b, off, cap, h2, h3, h4⟩⟩ := h
  · exact ⟨h1, .inl h2⟩
  · refine ⟨h1, .inr ⟨b, off, cap, h2, Nat.lt_of_lt_of_le h3 k.size, fun i hi => ?_⟩⟩
    have hc : ∀ o, w'.cell? ⟨b, o, none⟩ = w.cell? ⟨b, o, none⟩ := fun o => Below.cell k (p := ⟨b, o, none⟩) h3
    rw [hc, hc, hc, hc]; exact h4 i hi
theorem ToksAt.grown {w w' : World} {v : Value} {xs : List Tok} {row : Option Nat} (h : ToksAt w v xs) (k : w.grownBy w' row) (hr : v.ownBlock = none ∨ v.ownBlock ≠ row) : ToksAt w' v xs := by
  obtain ⟨h1, h2 | ⟨b, off, cap, h2, h3, h4⟩⟩ := h
  · exact ⟨h1, .inl h2⟩
  · refine ⟨h1, .inr ⟨b, off, cap, h2, Nat.lt_of_lt_of_le h3 k.size, fun i hi => ?_⟩⟩
    have hb : w'.heap[b]? = w.heap[b]? := k.block b h3 (fun e => by subst h2; rcases hr with hr | hr <;> simp [Value.ownBlock] at hr; exact hr e)
    have hc : ∀ o, w'.cell? ⟨b, o, none⟩ = w.cell? ⟨b, o, none⟩ := fun o => World.cell?_of_block (w := w) (w' := w') (a := ⟨b, o, none⟩) hb
    rw [hc, hc, hc, hc]; exact h4 i hi
theorem ToksAt.len {w : World} {v : Value} {xs : List Tok} (h : ToksAt w v xs) : ∃ ao cap, v = .slice ao xs.length cap := by
  obtain ⟨_, ⟨rfl, ao, cap, rfl⟩ | ⟨b, off, cap, rfl, _⟩⟩ := h
  · exact ⟨_, _, rfl⟩
  · exact ⟨_, _, rfl⟩
theorem ToksAt.nil (w : World) (ao : Option Addr) (cap : Nat) : ToksAt w (.slice ao 0 cap) [] := ⟨fun x hx => by simp at hx, .inl ⟨rfl, _, _, rfl⟩⟩
/-- v is a slice of the call's own (of a block from base on) that reads as xs. -/
def OwnK (base : Nat) (w : World) (v : Value) (xs : List Tok) : Prop :=
  (∀ x ∈ xs, x.In) ∧ w.ownsRow base 90 4 v xs.length (kcells xs)
theorem ownK_cells {w : World} {base g n cap : Nat} {xs : List Tok} (h : w.ownsRow base 90 4 (.slice (some ⟨g, 0, none⟩) n cap) n (kcells xs)) (hn : n = xs.length) (i : Nat) (hi : i < xs.length) :
    w.cell? ⟨g, i * 4, none⟩ = some (.int .i64 xs[i].kd) ∧ w.cell? ⟨g, i * 4 + 1, none⟩ = some (.int .i64 xs[i].lr) ∧
      w.cell? ⟨g, i * 4 + 2, none⟩ = some (.int .i64 xs[i].lo) ∧ w.cell? ⟨g, i * 4 + 3, none⟩ = some (.int .i64 xs[i].hi) := by
  subst hn
  have h0 := kcells_at xs i 0 hi (by omega)
  have h1 := kcells_at xs i 1 hi (by omega)
  have h2 := kcells_at xs i 2 hi (by omega)
  have h3 := kcells_at xs i 3 hi (by omega)
  rw [Nat.add_zero] at h0
  exact ⟨(h.cellAt _ (by omega)).trans h0, (h.cellAt _ (by omega)).trans h1, (h.cellAt _ (by omega)).trans h2, (h.cellAt _ (by omega)).trans h3⟩
theorem OwnK.at {base : Nat} {w : World} {v : Value} {xs : List Tok} (h : OwnK base w v xs) : ToksAt w v xs := by
  obtain ⟨h1, h2⟩ := h
  have h2' := h2
  refine ⟨h1, ?_⟩
  rcases h2.2 with ⟨hv, hn⟩ | ⟨g, cap, cur, rfl, hb, hg, _⟩
  · exact .inl ⟨List.eq_nil_of_length_eq_zero hn, none, 0, hv⟩
  · refine .inr ⟨g, 0, cap, rfl, heap_lt hg, fun i hi => ?_⟩
    rw [Nat.zero_add]
    exact ownK_cells h2' rfl i hi
theorem OwnK.mono {base base' : Nat} {w : World} {v : Value} {xs : List Tok} (h : OwnK base w v xs) (hb : base' ≤ base) : OwnK base' w v xs := by
  obtain ⟨h1, h2, h3⟩ := h
  refine ⟨h1, h2, ?_⟩
  rcases h3 with h3 | ⟨g, cap, cur, a, b, c⟩
  · exact .inl h3
  · exact .inr ⟨g, cap, cur, a, Nat.le_trans hb b, c⟩
theorem OwnK.since {base : Nat} {w w' : World} {v : Value} {xs : List Tok} (h : OwnK base w v xs) (k : Since w w') : OwnK base w' v xs := by
  obtain ⟨h1, h2, h3⟩ := h
  refine ⟨h1, h2, ?_⟩
  rcases h3 with h3 | ⟨g, cap, cur, a, b, c, d⟩
  · exact .inl h3
  · exact .inr ⟨g, cap, cur, a, b, (k.block g (heap_lt c)).trans c, d⟩
theorem OwnK.grown {base : Nat} {w w' : World} {v : Value} {xs : List Tok} {row : Option Nat} (h : OwnK base w v xs) (k : w.grownBy w' row) (hr : v.ownBlock = none ∨ v.ownBlock ≠ row) : OwnK base w' v xs :=
  ⟨h.1, h.2.kept k hr⟩
theorem OwnK.lt {base : Nat} {w : World} {v : Value} {xs : List Tok} (h : OwnK base w v xs) : ∀ k, v.ownBlock = some k → base ≤ k ∧ k < w.heap.size := h.2.lt
theorem info_tok : (Tryd.prog.info? 90).map (fun i => (i.zero, i.size, i.bytes)) = some (some (kv zeroK), 4, 32) := by kernel_rfl
theorem made_toks (n : Nat) : (madeCells (kv zeroK).cells (n * 4)).toList = kcells (List.replicate n zeroK) := by
  rw [kcells_zero]
  apply List.ext_getElem
  · simp [madeCells]
  · intro j h1 h2
    have hj : j % 4 = 0 ∨ j % 4 = 1 ∨ j % 4 = 2 ∨ j % 4 = 3 := by omega
    have e : (kv zeroK).cells = #[.int .i64 0, .int .i64 0, .int .i64 0, .int .i64 0] := rfl
    simp only [madeCells, e, Array.toList_map, List.getElem_map, List.getElem_replicate]
    rcases hj with h | h | h | h <;> simp [h]
theorem ToksAt.row {w : World} {v : Value} {xs : List Tok} (h : ToksAt w v xs) :
    ∃ ao cap, v = .slice ao xs.length cap ∧ Hid (∀ i (h : i < xs.length), ∃ b off, ao = some ⟨b, off, none⟩ ∧ b < w.heap.size ∧
      w.cell? ⟨b, off + i * 4, none⟩ = some (.int .i64 xs[i].kd) ∧ w.cell? ⟨b, off + i * 4 + 1, none⟩ = some (.int .i64 xs[i].lr) ∧
      w.cell? ⟨b, off + i * 4 + 2, none⟩ = some (.int .i64 xs[i].lo) ∧ w.cell? ⟨b, off + i * 4 + 3, none⟩ = some (.int .i64 xs[i].hi)) := by
  obtain ⟨_, ⟨rfl, ao, cap, rfl⟩ | ⟨b, off, cap, rfl, hb, hc⟩⟩ := h
  · exact ⟨ao, cap, rfl, fun i hi => by simp at hi⟩
  · exact ⟨_, cap, rfl, fun i hi => ⟨b, off, rfl, hb, hc i hi⟩⟩
theorem toToken_any (e : Tok) (w : World) : Calls Tryd.prog 123 #[kv e] w fun en w' => en = .returned (kv e) ∧ Since w w' := by
  unfold kv
  go_enter Tryd.func123, Tryd.ntmps123
  go_wp2
  exact bodyPost_ret (v := .agg #[.int .i64 e.kd, .int .i64 e.lr, .int .i64 e.lo, .int .i64 e.hi]) (by simp [results, Tryd.results123, go_sem]) rfl ⟨rfl, (((Since.refl w).alloc _).alloc _).alloc _⟩
set_option maxRecDepth 100000 in
theorem eqToken_any (a b : Tok) (w : World) : Calls Tryd.prog 124 #[kv a, kv b] w fun en w' => en = .returned (.bool (decide (a = b))) ∧ Since w w' := by
  have hs : Since w ((w.alloc (.cells #[.int .i64 a.kd, .int .i64 a.lr, .int .i64 a.lo, .int .i64 a.hi] 90)).alloc (.cells #[.int .i64 b.kd, .int .i64 b.lr, .int .i64 b.lo, .int .i64 b.hi] 90)) := ((Since.refl w).alloc _).alloc _
  unfold kv
  by_cases h1 : a.kd = b.kd
  · by_cases h2 : a.lr = b.lr
    · by_cases h3 : a.lo = b.lo
      · by_cases h4 : a.hi = b.hi
        · have hd := Lib.hid (show decide (a = b) = true from decide_eq_true (Tok.ext4 h1 h2 h3 h4))
          have n1 : (a.kd != b.kd) = false := by simpa using h1
          have n2 : (a.lr != b.lr) = false := by simpa using h2
          have n3 : (a.lo != b.lo) = false := by simpa using h3
          have n4 : (a.hi != b.hi) = false := by simpa using h4
          clear h1 h2 h3 h4
          go_enter Tryd.func124, Tryd.ntmps124
          go_wp2
          go_ret
          exact ⟨ret_bool hd.out.symm, hs⟩
        · have hd := Lib.hid (show decide (a = b) = false from decide_eq_false (fun h => h4 (by rw [h])))
          have n1 : (a.kd != b.kd) = false := by simpa using h1
          have n2 : (a.lr != b.lr) = false := by simpa using h2
          have n3 : (a.lo != b.lo) = false := by simpa using h3
          have n4 : (a.hi != b.hi) = true := by simpa using h4
          clear h1 h2 h3 h4
          go_enter Tryd.func124, Tryd.ntmps124
          go_wp2
          go_ret
          exact ⟨ret_bool hd.out.symm, hs⟩
      · have hd := Lib.hid (show decide (a = b) = false from decide_eq_false (fun h => h3 (by rw [h])))
        have n1 : (a.kd != b.kd) = false := by simpa using h1
        have n2 : (a.lr != b.lr) = false := by simpa using h2
        have n3 : (a.lo != b.lo) = true := by simpa using h3
        clear h1 h2 h3
        go_enter Tryd.func124, Tryd.ntmps124
        go_wp2
        go_ret
        exact ⟨ret_bool hd.out.symm, hs⟩
    · have hd := Lib.hid (show decide (a = b) = false from decide_eq_false (fun h => h2 (by rw [h])))
      have n1 : (a.kd != b.kd) = false := by simpa using h1
      have n2 : (a.lr != b.lr) = true := by simpa using h2
      clear h1 h2
      go_enter Tryd.func124, Tryd.ntmps124
      go_wp2
      go_ret
      exact ⟨ret_bool hd.out.symm, hs⟩
  · have hd := Lib.hid (show decide (a = b) = false from decide_eq_false (fun h => h1 (by rw [h])))
    have n1 : (a.kd != b.kd) = true := by simpa using h1
    clear h1
    go_enter Tryd.func124, Tryd.ntmps124
    go_wp2
    go_ret
    exact ⟨ret_bool hd.out.symm, hs⟩
theorem take_eq_stepEK {xs ys : List Tok} (k : Nat) (h1 : k < xs.length) (h2 : k < ys.length) (h : xs.take k = ys.take k) (he : xs[k] = ys[k]) : xs.take (k + 1) = ys.take (k + 1) := by
  rw [List.take_succ_eq_append_getElem h1, List.take_succ_eq_append_getElem h2, h, he]
theorem ne_of_atEK {xs ys : List Tok} (k : Nat) (h1 : k < xs.length) (h2 : k < ys.length) (he : xs[k] ≠ ys[k]) : xs ≠ ys := by
  intro e; subst e; exact he rfl
set_option maxRecDepth 100000 in
theorem eqTokenS_any (a b : Value) (xs ys : List Tok) (w : World) (ha : ToksAt w a xs) (hb : ToksAt w b ys) (hl : xs.length ≤ 1152921504606846976) (hl2 : ys.length ≤ 1152921504606846976) :
    Calls Tryd.prog 82 #[a, b] w fun e w' => e = .returned (.bool (decide (xs = ys))) ∧ Since w w' := by
  obtain ⟨ao1, cap1, rfl, HC1⟩ := ha.row
  obtain ⟨ao2, cap2, rfl, HC2⟩ := hb.row
  clear ha hb
  by_cases hlen : xs.length = ys.length
  · rw [← hlen]
    obtain ⟨n, hn⟩ : ∃ n, n = xs.length := ⟨_, rfl⟩
    rw [← hn]
    have hn9 : n ≤ 1152921504606846976 := by omega
    have HN := Lib.hid hn
    have HN2 : Hid (n = ys.length) := by rw [hn]; exact hlen
    have HNE : (((n : Nat) : Int) != ((n : Nat) : Int)) = false := by simp
    clear hn hlen hl hl2
    go_enter Tryd.func82, Tryd.ntmps82
    go_wp2
    go_loopw [5] (fun i wr => ∃ k : Nat, k ≤ n ∧ i = .int .i64 k ∧ Hid (xs.take k = ys.take k) ∧ Since w wr) (fun i _ => n - (intOf i).toNat)
    case atStart => exact ⟨0, Nat.zero_le _, rfl, rfl, Since.refl w⟩
    case round =>
      obtain ⟨k, hk, rfl, HT, hsin⟩ := hrel
      by_cases hlt : k < n
      · have hx : k < xs.length := by have := HN.out; omega
        have hy : k < ys.length := by have := HN2.out; omega
        obtain ⟨b1, off1, rfl, hb1, c10, c11, c12, c13⟩ := HC1.out k hx
        obtain ⟨b2, off2, rfl, hb2, c20, c21, c22, c23⟩ := HC2.out k hy
        have s1 := since_cells hsin hb1
        have s2 := since_cells hsin hb2
        rw [← s1] at c10 c11 c12 c13
        rw [← s2] at c20 c21 c22 c23
        clear s1 s2
        have hki : (k : Int) < (n : Int) := by omega
        have hk0 : (0 : Int) ≤ (k : Int) := by omega
        go_wp2
        by_cases he : xs[k] = ys[k]
        · have HE := Lib.hid (show decide (xs[k] = ys[k]) = true from decide_eq_true he)
          have HF := Lib.hid (take_eq_stepEK k hx hy HT.out he)
          clear he
          go_still_tail 8, (by kernel_rfl)
          go_wp2_with fail
          refine (eqToken_any xs[k] ys[k] _).mono ?_
          rintro e w1 ⟨rfl, hs1⟩
          rw [HE.out]
          have hs := hsin.trans (Since.of_drew hs1)
          go_wp2
          go_roundw
          case rel => exact ⟨k + 1, by omega, by go_num, HF, hs⟩
          case measure => simp [intOf]; omega
        · have HE := Lib.hid (show decide (xs[k] = ys[k]) = false from decide_eq_false he)
          have HF := Lib.hid (show decide (xs = ys) = false from decide_eq_false (ne_of_atEK k hx hy he))
          clear he
          go_still_tail 8, (by kernel_rfl)
          go_wp2_with fail
          refine (eqToken_any xs[k] ys[k] _).mono ?_
          rintro e w1 ⟨rfl, hs1⟩
          rw [HE.out]
          have hs := hsin.trans (Since.of_drew hs1)
          go_wp2
          go_ret
          exact ⟨ret_bool HF.out.symm, hs⟩
      · obtain rfl : k = n := by omega
        have HE : Hid (decide (xs = ys) = true) := by
          have := HT.out
          rw [List.take_of_length_le (by have := HN.out; omega), List.take_of_length_le (by have := HN2.out; omega)] at this
          unfold Hid; simpa using this
        go_wp2
        go_ret
        exact ⟨ret_bool HE.out.symm, hsin⟩
  · have HE : Hid (decide (xs = ys) = false) := by unfold Hid; simp; intro e; rw [e] at hlen; exact hlen rfl
    have hne : ((xs.length : Int) != (ys.length : Int)) = true := by simp; omega
    obtain ⟨n, hn⟩ : ∃ n, n = xs.length := ⟨_, rfl⟩
    obtain ⟨m, hm⟩ : ∃ m, m = ys.length := ⟨_, rfl⟩
    rw [← hn, ← hm] at hne ⊢
    have hn9 : n ≤ 4611686018427387904 := by omega
    have hm9 : m ≤ 4611686018427387904 := by omega
    clear hn hm hlen hl hl2 HC1 HC2
    go_enter Tryd.func82, Tryd.ntmps82
    go_wp2
    go_ret
    exact ⟨ret_bool HE.out.symm, Since.refl _⟩
/-- Four cells of a row written one after the other. -/
theorem row_set4K {w : World} {base g n cap : Nat} {xs : List Tok} (h : w.ownsRow base 90 4 (.slice (some ⟨g, 0, none⟩) n cap) n (kcells xs)) (k : Nat) (hk : k < xs.length) (e : Tok) :
    ((((w.setCell ⟨g, k * 4, none⟩ (.int .i64 e.kd)).setCell ⟨g, k * 4 + 1, none⟩ (.int .i64 e.lr)).setCell ⟨g, k * 4 + 2, none⟩ (.int .i64 e.lo)).setCell ⟨g, k * 4 + 3, none⟩ (.int .i64 e.hi)).ownsRow base 90 4 (.slice (some ⟨g, 0, none⟩) n cap) n (kcells (xs.set k e)) := by
  rw [← kcells_set xs k hk e]
  exact ((((h.stored _ _).1.stored _ _).1.stored _ _).1.stored _ _).1
theorem filled_getEK (xs : List Tok) (k i : Nat) (hk : k ≤ xs.length) (hi : i < xs.length) : i < (filled xs zeroK k).length := by rw [filled_length xs zeroK k hk]; exact hi
theorem OwnK.within {lo hi a b base : Nat} {w w' : World} {v : Value} {xs : List Tok} (h : OwnK base w v xs) (hv : InR a b v) (k : Within lo hi w w') (hd : b ≤ lo ∨ hi ≤ a) : OwnK base w' v xs :=
  ⟨h.1, ownsRow_within h.2 hv k hd⟩
theorem OwnK.inR {base : Nat} {w : World} {v : Value} {xs : List Tok} (h : OwnK base w v xs) : InR base w.heap.size v := fun k hk => h.2.lt k hk
theorem own_apartK {base base' : Nat} {w : World} {a b : Value} {xs : List Int} {ys : List Tok} (h : Own base w a xs) (k : OwnK base' w b ys) : a.ownBlock = none ∨ a.ownBlock ≠ b.ownBlock := by
  rcases k.2.2 with ⟨rfl, _⟩ | ⟨g, cap, cur, rfl, _, hg, _⟩
  · cases a.ownBlock with
    | none => exact .inl rfl
    | some _ => exact .inr (by simp [Value.ownBlock])
  · exact .inr (other_type h.2 hg (by decide))
/-- A step that turns a's block leaves b, and the other way round. -/
theorem own_apart'K {base base' : Nat} {w : World} {a b : Value} {xs : List Int} {ys : List Tok} (h : Own base w a xs) (k : OwnK base' w b ys) : b.ownBlock = none ∨ b.ownBlock ≠ a.ownBlock := by
  rcases own_apartK h k with e | e
  · cases hb : b.ownBlock with
    | none => exact .inl rfl
    | some _ => exact .inr (by rw [e]; simp)
  · exact .inr (fun e2 => e e2.symm)
theorem OwnK.len {base : Nat} {w : World} {v : Value} {xs : List Tok} (h : OwnK base w v xs) : ∃ ao cap, v = .slice ao xs.length cap := h.at.len
theorem OwnK.far {base : Nat} {w : World} {v : Value} {xs : List Tok} (h : OwnK base w v xs) {p : Addr} (hp : p.block < base) (u : Value) : OwnK base (w.setCell p u) v xs := ⟨h.1, ownsRow_setCell_below h.2 hp u⟩
theorem ownK_lit (w w1 : World) (h : Since w w1) (b : Nat) (hb : b = w1.heap.size) : OwnK w.heap.size (w1.alloc (.cells #[] 90)) (.slice (some ⟨b, 0, none⟩) 0 0) [] := by
  subst hb; exact ⟨fun x hx => by simp at hx, World.ownsRow_lit w1 #[] 0 h.size (Nat.zero_le _) rfl⟩
theorem ownK_one (w w1 : World) (h : Since w w1) (e : Tok) (he : e.In) (b : Nat) (hb : b = w1.heap.size) : OwnK w.heap.size (w1.alloc (.cells #[.int .i64 e.kd, .int .i64 e.lr, .int .i64 e.lo, .int .i64 e.hi] 90)) (.slice (some ⟨b, 0, none⟩) 1 1) [e] := by
  subst hb; exact ⟨fun x hx => by simp at hx; subst hx; exact he, World.ownsRow_lit w1 #[.int .i64 e.kd, .int .i64 e.lr, .int .i64 e.lo, .int .i64 e.hi] 1 h.size (by unfold maxLen; omega) rfl⟩
theorem OwnK.grownX {base : Nat} {w w' : World} {v : Value} {xs : List Tok} {row : Option Nat} (h : OwnK base w v xs) (k : w.grownBy w' row) (hr : v.ownBlock = none ∨ v.ownBlock ≠ row) : OwnK base w' v xs := ⟨h.1, h.2.kept k hr⟩
theorem toks_take {w : World} {ao : Option Addr} {m cap : Nat} {xs : List Tok} (h : ToksAt w (.slice ao m cap) xs) {k : Nat} (hk : k ≤ m) (ad : Option Addr) (c : Nat) (had : ad = ao) : ToksAt w (.slice ad k c) (xs.take k) := by
  subst had
  obtain ⟨h1, h2⟩ := h
  refine ⟨fun x hx => h1 x (List.mem_of_mem_take hx), ?_⟩
  rcases h2 with ⟨rfl, ao', cap', e⟩ | ⟨b, off, cap', e, hb, hc⟩
  · injection e with _ e _
    obtain rfl : k = 0 := by omega
    exact .inl ⟨by simp, ad, c, rfl⟩
  · injection e with e1 e2 _
    have hl : (xs.take k).length = k := by simp; omega
    refine .inr ⟨b, off, c, by rw [hl, e1], hb, fun i hi => ?_⟩
    rw [List.getElem_take]
    exact hc i (by omega)
theorem toks_drop {w : World} {b off m cap : Nat} {xs : List Tok} (h : ToksAt w (.slice (some ⟨b, off, none⟩) m cap) xs) {k : Nat} (hk : k ≤ m) (ad : Option Addr) (n c : Nat) (hn : n = m - k) (had : k < m → ad = some ⟨b, off + k * 4, none⟩) : ToksAt w (.slice ad n c) (xs.drop k) := by
  subst hn
  obtain ⟨h1, h2⟩ := h
  refine ⟨fun x hx => h1 x (List.mem_of_mem_drop hx), ?_⟩
  rcases h2 with ⟨rfl, ao', cap', e⟩ | ⟨b', off', cap', e, hb, hc⟩
  · injection e with _ e _
    exact .inl ⟨by simp, ad, c, by rw [show m - k = 0 from by omega]⟩
  · injection e with e1 e2 _
    injection e1 with e1; injection e1 with e1 e3
    subst e1; subst e3
    by_cases hlt : k < m
    · refine .inr ⟨b, off + k * 4, c, by rw [had hlt, List.length_drop, ← e2], hb, fun i hi => ?_⟩
      rw [List.length_drop] at hi
      have := hc (k + i) (by omega)
      rw [List.getElem_drop]
      rw [show off + k * 4 + i * 4 = off + (k + i) * 4 from by omega]
      exact this
    · exact .inl ⟨List.drop_of_length_le (by omega), ad, c, by rw [show m - k = 0 from by omega]⟩
theorem toks_takeO {w : World} {ao : Option Addr} {m cap : Nat} {xs : List Tok} (h : ToksAt w (.slice ao m cap) xs) {k : Nat} (hk : k ≤ m) (ad : Option Addr) (c : Nat) (had : ∀ b off, ao = some ⟨b, off, none⟩ → ad = some ⟨b, off, none⟩) : ToksAt w (.slice ad k c) (xs.take k) := by
  have h0 := h
  rcases h.2 with ⟨rfl, ao', cap', e⟩ | ⟨b, off, cap', e, hb, hc⟩
  · injection e with _ e _
    obtain rfl : k = 0 := by omega
    exact ⟨fun x hx => by simp at hx, .inl ⟨by simp, ad, c, rfl⟩⟩
  · injection e with e1 e2 _
    exact toks_take h0 hk ad c ((had b off e1).trans e1.symm)
theorem toks_dropO {w : World} {ao : Option Addr} {m cap : Nat} {xs : List Tok} (h : ToksAt w (.slice ao m cap) xs) {k : Nat} (hk : k ≤ m) (ad : Option Addr) (n c : Nat) (hn : n = m - k) (had : k < m → ∀ b off, ao = some ⟨b, off, none⟩ → ad = some ⟨b, off + k * 4, none⟩) : ToksAt w (.slice ad n c) (xs.drop k) := by
  rcases h.2 with ⟨rfl, ao', cap', e⟩ | ⟨b, off, cap', e, hb, hc⟩
  · injection e with _ e _
    exact ⟨fun x hx => by simp at hx, .inl ⟨by simp, ad, c, by rw [show n = 0 from by omega]⟩⟩
  · injection e with e1 e2 _
    subst e1
    exact toks_drop h hk ad n c hn (fun hlt => had hlt b off rfl)
theorem toks_src {w : World} {ao : Option Addr} {n cap : Nat} {xs : List Tok} (h : ToksAt w (.slice ao n cap) xs) : SrcAt w ao (kcells xs) ∧ n = xs.length := by
  obtain ⟨ao', cap', e, HC⟩ := h.row
  injection e with e1 e2 e3
  subst e1 e2 e3
  refine ⟨fun h0 => ?_, rfl⟩
  rw [kcells_length] at h0
  obtain ⟨b, off, e, _, _⟩ := HC.out 0 (by omega)
  refine ⟨⟨b, off, none⟩, e, fun j u hu => ?_⟩
  have hjl : j < xs.length * 4 := by have := (List.getElem?_eq_some_iff.1 hu).1; rw [kcells_length] at this; exact this
  have hq : j / 4 < xs.length := by omega
  obtain ⟨b', off', e', _, c0, c1, c2, c3⟩ := HC.out (j / 4) hq
  rw [e] at e'; injection e' with e'; injection e' with e1 e2; subst e1; subst e2
  have ha := kcells_at xs (j / 4) (j % 4) hq (Nat.mod_lt _ (by omega))
  rw [show j / 4 * 4 + j % 4 = j from by omega, hu] at ha
  rw [add_plain]
  have hr : j % 4 = 0 ∨ j % 4 = 1 ∨ j % 4 = 2 ∨ j % 4 = 3 := by omega
  rcases hr with hr | hr | hr | hr
  · rw [hr] at ha; injection ha with ha; subst ha
    rw [show off + j = off + j / 4 * 4 from by omega]; exact c0
  · rw [hr] at ha; injection ha with ha; subst ha
    rw [show off + j = off + j / 4 * 4 + 1 from by omega]; exact c1
  · rw [hr] at ha; injection ha with ha; subst ha
    rw [show off + j = off + j / 4 * 4 + 2 from by omega]; exact c2
  · rw [hr] at ha; injection ha with ha; subst ha
    rw [show off + j = off + j / 4 * 4 + 3 from by omega]; exact c3
/-- .. of edges onto edges. -/
theorem run_append_toks (w : World) (base : Nat) (ty : TypeId) (v : Value) (xs : List Tok) (hown : OwnK base w v xs) (ao : Option Addr) (m c : Nat) (ys : List Tok) (hy : ToksAt w (.slice ao m c) ys)
    (hlen : xs.length + ys.length ≤ 4194304) (hbase : base ≤ w.heap.size) :
    ∃ v' w', (Builtin.append_ #[24, 24] ty #[v, .slice ao m c]).run Tryd.prog w = .ok v' w' ∧ OwnK base w' v' (xs ++ ys) ∧ w.grownBy w' v.ownBlock ∧ (v'.ownBlock = v.ownBlock ∨ v'.ownBlock = some w.heap.size) := by
  obtain ⟨hs, rfl⟩ := toks_src hy
  obtain ⟨v', w', hr, h1, h2, h3⟩ := run_append_src w base 24 ty 90 (kv zeroK) 4 32 Tryd.underlying24 info_tok rfl (by decide) v xs.length (kcells xs) hown.2 ao ys.length c (kcells ys) (by rw [kcells_length]) hs
    (kcells_oneCell ys) (by unfold maxLen; omega) (by omega) hbase
  refine ⟨v', w', hr, ⟨fun x hx => ?_, ?_⟩, h2, h3⟩
  · rcases List.mem_append.1 hx with h | h
    · exact hown.1 x h
    · exact hy.1 x h
  · rw [List.length_append, kcells_append]; exact h1
theorem wp_append_toks {w : World} {o : Oper} {a : Act} {K : Act → World → Prop} {Q : Exit → Act → World → Prop} (s x : Operand)
    (ho : o.op = .call { callee := .builtin .append, args := #[s, x], argTypes := #[24, 24] }) (base : Nat) (v : Value) (xs : List Tok) (hs : a.eval s = v) (hown : OwnK base w v xs) (ao : Option Addr) (m c : Nat) (hx : a.eval x = .slice ao m c)
    (ys : List Tok) (hy : ToksAt w (.slice ao m c) ys) (hlen : xs.length + ys.length ≤ 4194304) (hbase : base ≤ w.heap.size)
    (h : ∀ v' w', OwnK base w' v' (xs ++ ys) → w.grownBy w' v.ownBlock → (v'.ownBlock = v.ownBlock ∨ v'.ownBlock = some w.heap.size) → K (a.put o.dst v') w') : o.wp Tryd.prog a w K Q := by
  obtain ⟨v', w', hr, h1, h2, h3⟩ := run_append_toks w base o.type v xs hown ao m c ys hy hlen hbase
  exact wp_of_run_append s x _ ho v _ v' w' hs hx hr (h v' w' h1 h2 h3)
theorem wpList_append_toks {w : World} {ops : Array Oper} {rest : List Oper} {o : Oper} {a : Act} {Q : Exit → Act → World → Prop} (hgd : o.guard = none) (s x : Operand)
    (ho : o.op = .call { callee := .builtin .append, args := #[s, x], argTypes := #[24, 24] }) (base : Nat) (v : Value) (xs : List Tok) (hs : a.eval s = v) (hown : OwnK base w v xs) (ao : Option Addr) (m c : Nat) (hx : a.eval x = .slice ao m c)
    (ys : List Tok) (hy : ToksAt w (.slice ao m c) ys) (hlen : xs.length + ys.length ≤ 4194304) (hbase : base ≤ w.heap.size)
    (h : ∀ v' w', OwnK base w' v' (xs ++ ys) → w.grownBy w' v.ownBlock → (v'.ownBlock = v.ownBlock ∨ v'.ownBlock = some w.heap.size) → wpList Tryd.prog ops Q rest (a.put o.dst v') w') : wpList Tryd.prog ops Q (o :: rest) a w :=
  wpList_plain hgd fun _ hK => wp_append_toks s x ho base v xs hs hown ao m c hx ys hy hlen hbase fun v' w' h2 h3 h4 => hK _ _ (h v' w' h2 h3 h4)
theorem size_tok : (Tryd.prog.info? 90).map (·.size) = some 4 := by kernel_rfl
theorem wpList_copyEK {w : World} {ops : Array Oper} {rest : List Oper} {o : Oper} {a : Act} {Q : Exit → Act → World → Prop} (hgd : o.guard = none) (d s : Operand)
    (ho : o.op = .call { callee := .builtin .copy, args := #[d, s], argTypes := #[24, 24] }) (base g n cap : Nat) (zs : List Value) (hd : a.eval d = .slice (some ⟨g, 0, none⟩) n cap) (hown : w.ownsRow base 90 4 (.slice (some ⟨g, 0, none⟩) n cap) n zs)
    (ao : Option Addr) (k c : Nat) (hs : a.eval s = .slice ao n c) (xs : List Tok) (hx : ToksAt w (.slice ao n c) xs) (hn : xs.length = n)
    (h : ∀ w', OwnK base w' (.slice (some ⟨g, 0, none⟩) n cap) xs → w.grownBy w' (some g) → wpList Tryd.prog ops Q rest (a.put o.dst (goInt n)) w') : wpList Tryd.prog ops Q (o :: rest) a w := by
  obtain ⟨hsrc, _⟩ := toks_src hx
  obtain ⟨w', hr, h2, h3⟩ := run_copy_full w 24 o.type 90 4 (by decide) Tryd.underlying24 size_tok base g n cap zs hown ao c (kcells xs) (by rw [kcells_length, hn]) hsrc (kcells_oneCell xs)
  exact wpList_of_run_copy hgd d s _ ho _ _ n w' hd hs hr (h w' ⟨hx.1, by rw [hn]; exact h2⟩ h3)
/-- v is a expression that reads as xs. -/
def ExAt (w : World) (v : Value) (xs : List Tok) : Prop := ∃ b, v = .agg #[b] ∧ ToksAt w b xs
theorem ExAt.since {w w' : World} {v : Value} {xs : List Tok} (h : ExAt w v xs) (k : Since w w') : ExAt w' v xs := by
  obtain ⟨b, rfl, h1⟩ := h; exact ⟨b, rfl, h1.since k⟩
/-- v is a expression whose tokens lie in a block from lo on and below hi, and reads as xs. -/
def OwnX (lo hi : Nat) (w : World) (v : Value) (xs : List Tok) : Prop := ∃ b, v = .agg #[b] ∧ OwnK lo w b xs ∧ InR lo hi b
theorem OwnX.at {lo hi : Nat} {w : World} {v : Value} {x : List Tok} (h : OwnX lo hi w v x) : ExAt w v x := by
  obtain ⟨b, rfl, h1, _⟩ := h; exact ⟨b, rfl, h1.at⟩
theorem OwnX.since {lo hi : Nat} {w w' : World} {v : Value} {x : List Tok} (h : OwnX lo hi w v x) (k : Since w w') : OwnX lo hi w' v x := by
  obtain ⟨b, rfl, h1, r1⟩ := h; exact ⟨b, rfl, h1.since k, r1⟩
theorem OwnX.within {lo hi a b : Nat} {w w' : World} {v : Value} {x : List Tok} (h : OwnX a b w v x) (k : Within lo hi w w') (hd : b ≤ lo ∨ hi ≤ a) : OwnX a b w' v x := by
  obtain ⟨y, rfl, h1, r1⟩ := h; exact ⟨y, rfl, h1.within r1 k hd, r1⟩
theorem OwnX.wider {a b a' b' : Nat} {w : World} {v : Value} {x : List Tok} (h : OwnX a b w v x) (ha : a' ≤ a) (hb : b ≤ b') : OwnX a' b' w v x := by
  obtain ⟨y, rfl, h1, r1⟩ := h; exact ⟨y, rfl, h1.mono ha, r1.mono ha hb⟩
theorem OwnX.mk {lo : Nat} {w : World} {b : Value} {xs : List Tok} (h1 : OwnK lo w b xs) : OwnX lo w.heap.size w (.agg #[b]) xs := ⟨b, rfl, h1, h1.inR⟩
/-- The answer of a function that gives a expression. -/
def XOut (w : World) (xs : List Tok) (e : Ending) (w' : World) : Prop := ∃ v, e = .returned v ∧ OwnX w.heap.size w'.heap.size w' v xs ∧ Since w w'
/-- The answer of a function that gives a expression and a truth value. -/
def XBOut (w : World) (xs : List Tok) (b : Bool) (e : Ending) (w' : World) : Prop := ∃ v, e = .returned (.tuple #[v, .bool b]) ∧ OwnX w.heap.size w'.heap.size w' v xs ∧ Since w w'
end Go.Proofs.YtblmiocjhbpklaaDoor
