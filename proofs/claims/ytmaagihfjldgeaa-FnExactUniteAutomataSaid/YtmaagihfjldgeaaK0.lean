/- Plain, Base, Bits, Rows1, Fixed, Let, Ints, Cmp, Edg, Grf: small words and contracts that the other texts use. -/
import Derived.Test.YtmaagihfjldgeaaRows
import Derived.WalkKit
import Derived.ProofKit
import Derived.OpenShut
import Derived.Handy
import Derived.BigQuiet
import Derived.WalkLawsBesides
import Derived.WalkSpells
import Derived.Outline
import Derived.Lib.Hide
import Derived.Laws.BitsAllLaws
import Derived.Deep.RegionLaw
import Derived.Deep.QuietTactic
/- Plain facts on lists, of our own: no program and no walk. -/
namespace Go.Proofs.Ytmaagihfjldgeaa
set_option maxRecDepth 100000

/-- A row that is filled from the left: the first k cells of l, then z. -/
def filled {α : Type} (l : List α) (z : α) (k : Nat) : List α := l.take k ++ List.replicate (l.length - k) z
theorem filled_zero {α : Type} (l : List α) (z : α) : filled l z 0 = List.replicate l.length z := by simp [filled]
theorem filled_all {α : Type} (l : List α) (z : α) (k : Nat) (h : l.length ≤ k) : filled l z k = l := by
  simp [filled, List.take_of_length_le h, Nat.sub_eq_zero_of_le h]
theorem filled_length {α : Type} (l : List α) (z : α) (k : Nat) (h : k ≤ l.length) : (filled l z k).length = l.length := by
  simp [filled]; omega
theorem filled_set {α : Type} (l : List α) (z : α) (k : Nat) (h : k < l.length) : (filled l z k).set k l[k] = filled l z (k + 1) := by
  unfold filled
  rw [show l.length - k = (l.length - (k + 1)) + 1 from by omega, List.replicate_succ]
  rw [List.set_append_right _ _ (by rw [List.length_take]; omega), List.length_take, Nat.min_eq_left (Nat.le_of_lt h), Nat.sub_self, List.set_cons_zero]
  rw [List.take_succ_eq_append_getElem h, List.append_assoc]; rfl
theorem filled_at {α : Type} (l : List α) (z : α) (k : Nat) (h : k < l.length) : (filled l z k)[k]? = some z := by
  unfold filled
  rw [List.getElem?_append_right (by rw [List.length_take]; omega), List.length_take, Nat.min_eq_left (Nat.le_of_lt h), Nat.sub_self]
  rw [List.getElem?_replicate, if_pos (by omega)]
end Go.Proofs.Ytmaagihfjldgeaa

/- Small facts of our own that every text of this seat uses: endings, numbers in a range, bytes of strings. -/
namespace Go.Proofs.Ytmaagihfjldgeaa
set_option maxRecDepth 100000
open Go.ChangeShapes Go.WideShapes Go.ChangeAt Go.RowKit

def inB (x lo hi : Int) : Bool := decide (lo ≤ x ∧ x ≤ hi)
theorem inB_true {x lo hi : Int} (h1 : lo ≤ x) (h2 : x ≤ hi) : inB x lo hi = true := by simp [inB]; omega
theorem inB_false {x lo hi : Int} (h : x < lo ∨ hi < x) : inB x lo hi = false := by simp [inB]; omega

theorem ret_bool {a b : Bool} (h : a = b) : Ending.returned (.bool a) = .returned (.bool b) := by rw [h]
theorem ret_int {k : IntKind} {a b : Int} (h : a = b) : Ending.returned (.int k a) = .returned (.int k b) := by rw [h]
theorem ret_str {a b : ByteArray} (h : a = b) : Ending.returned (.string a) = .returned (.string b) := by rw [h]

theorem take_snoc (s : ByteArray) (k : Nat) (h : k < s.size) : s.data.toList.take (k + 1) = s.data.toList.take k ++ [s[k]] := by
  rw [List.take_succ_eq_append_getElem (by simpa using h)]; rfl
theorem byte_lt (s : ByteArray) (k : Nat) (h : k < s.size) : s[k].toNat < 256 := s[k].toNat_lt

/-- What came to be since w lies in new blocks. -/
def Since (w w' : World) : Prop := Below w.heap.size w w'
theorem Since.refl (w : World) : Since w w := Below.refl _ _
theorem Since.trans {a b c : World} (h : Since a b) (k : Since b c) : Since a c := Below.trans h (Below.mono k h.size)
theorem Since.alloc {w w' : World} (h : Since w w') (o : Obj) : Since w (w'.alloc o) := Below.alloc h h.size o
theorem Since.drew {w w' : World} (h : Since w w') : Since w w'.drew := Below.drew h
theorem Since.setCell {w w' : World} (h : Since w w') {a : Addr} (ha : w.heap.size ≤ a.block) (u : Value) : Since w (w'.setCell a u) := Below.setCell h ha u
theorem Since.grown {w w' w'' : World} {row : Option Nat} (h : Since w w') (hg : w'.grownBy w'' row) (hr : ∀ k, row = some k → w.heap.size ≤ k) : Since w w'' := Below.grown h hg h.size hr
theorem Since.of_drew {w w' : World} (h : Since w.drew w') : Since w w' := ⟨h.os, h.tape, h.output, h.size, h.block⟩
theorem Since.lt {w w' : World} (h : Since w w') : w.heap.size ≤ w'.heap.size := h.size
theorem Since.below {w w' : World} (h : Since w w') : Below w.heap.size w w' := h
end Go.Proofs.Ytmaagihfjldgeaa

/- '&' and '|' on an int that is not negative, as sums and remainders. -/
namespace Go.Proofs.Ytmaagihfjldgeaa
set_option maxRecDepth 100000

theorem wrap_small (n : Nat) (h : n < 9223372036854775808) : IntKind.i64.wrap (n : Int) = (n : Int) := by
  rw [IntKind.wrap_i64]; omega
theorem i64_or_nat (a b : Nat) (ha : a < 9223372036854775808) (hb : b < 9223372036854775808) : bits .or .i64 (a : Int) (b : Int) = ((a ||| b : Nat) : Int) := by
  have hx : a ||| b < 2 ^ 63 := Nat.or_lt_two_pow (by omega) (by omega)
  show IntKind.i64.wrap ((BitVec.ofInt 64 (a : Int) ||| BitVec.ofInt 64 (b : Int)).toNat : Int) = _
  rw [BitVec.toNat_or, ofInt_u64 a (by omega), ofInt_u64 b (by omega)]
  exact wrap_small _ (by omega)
theorem i64_and_nat (a b : Nat) (ha : a < 9223372036854775808) (hb : b < 9223372036854775808) : bits .and .i64 (a : Int) (b : Int) = ((a &&& b : Nat) : Int) := by
  have hx : a &&& b < 2 ^ 63 := Nat.and_lt_two_pow _ (by omega)
  show IntKind.i64.wrap ((BitVec.ofInt 64 (a : Int) &&& BitVec.ofInt 64 (b : Int)).toNat : Int) = _
  rw [BitVec.toNat_and, ofInt_u64 a (by omega), ofInt_u64 b (by omega)]
  exact wrap_small _ (by omega)
theorem or_hi (i a b : Nat) (h : b < 2 ^ i) : a * 2 ^ i ||| b = a * 2 ^ i + b := by
  rw [Nat.mul_comm a, Nat.two_pow_add_eq_or_of_lt h]
theorem or_lo (i a b : Nat) (h : b < 2 ^ i) : b ||| a * 2 ^ i = b + a * 2 ^ i := by
  rw [Nat.or_comm, or_hi i a b h, Nat.add_comm]
theorem i64_or256 (a b : Nat) (hb : b < 256) (h : a < 281474976710656) : bits .or .i64 ((a : Int) * 256) (b : Int) = (a : Int) * 256 + b := by
  have := i64_or_nat (a * 256) b (by omega) (by omega)
  rw [or_hi 8 a b hb] at this
  simpa using this
theorem i64_and127 (a : Nat) (h : a < 9223372036854775808) : bits .and .i64 (a : Int) 127 = (a : Int) % 128 := by
  have := i64_and_nat a 127 h (by omega)
  rw [show (127 : Nat) = 2 ^ 7 - 1 from rfl, Nat.and_two_pow_sub_one_eq_mod] at this
  simpa using this
theorem i64_or128 (a : Nat) (h : a < 128) : bits .or .i64 (a : Int) 128 = (a : Int) + 128 := by
  have := i64_or_nat a (1 * 2 ^ 7) (by omega) (by omega)
  rw [or_lo 7 1 a h] at this
  simpa using this
end Go.Proofs.Ytmaagihfjldgeaa

/- Rows of the call's own, whose elements are one cell each: an element more by append; what was made since stays since. -/
namespace Go.Proofs.Ytmaagihfjldgeaa
set_option maxRecDepth 100000
open Go.ChangeShapes Go.WideShapes Go.ChangeAt Go.RowKit

theorem append_cell {w wr : World} {ops : Array Oper} {rest : List Oper} {o : Oper} {a : Act} {Q : Exit → Act → World → Prop}
    (hgd : o.guard = none) (s x : Operand) (t : TypeId) (ho : o.op = .call { callee := .builtin .append, args := #[s, x], argTypes := #[t, t] })
    (e : TypeId) (z : Value) (bytes : Nat) (ht : Try.prog.underlying t = some (.slice e))
    (hinfo : (Try.prog.info? e).map (fun i => (i.zero, i.size, i.bytes)) = some (some z, 1, bytes)) (hz : z.cells.size = 1)
    (v : Value) (n : Nat) (xs : List Value) (hs : a.eval s = v) (hown : wr.ownsRow w.heap.size e 1 v n xs) (hsin : Since w wr)
    (y : Value) (hy : y.oneCell' = true) (hx : a.eval x = .slice (some ⟨wr.heap.size, 0, none⟩) 1 1)
    (hb : (n + 1) * bytes ≤ 140737488355328) (h63 : n + 1 ≤ maxLen)
    (h : ∀ v' w', w'.ownsRow w.heap.size e 1 v' (n + 1) (xs ++ [y]) → Since w w' → wpList Try.prog ops Q rest (a.put o.dst v') w') :
    wpList Try.prog ops Q (o :: rest) a (wr.alloc (.cells #[y] e)) := by
  obtain ⟨i0, hi, hz0, hz1, hz2⟩ := info_parts hinfo
  refine wpList_append_own _ hgd s x t ho w.heap.size e i0 z 1 bytes ht hi hz0 hz1 hz2 hz (by decide) v n xs hs (hown.alloc _) ⟨wr.heap.size, 0, none⟩ 1 1 [y] hx rfl ?_ ?_ h63 hb ?_ ?_
  · intro j u hj
    match j, hj with
    | 0, hj => simp at hj; subst hj; simp [Addr.add]
  · intro u hu
    simp at hu; subst hu; exact hy
  · have := hsin.lt; simp; omega
  · intro v' w' h1 h2 _
    exact h v' w' h1 ((hsin.alloc _).grown h2 fun k hk => ((hown.alloc (.cells #[y] e)).lt k hk).1)
/-- .. and every block but the row's own is as it was. -/
theorem append_cell_k {w wr : World} {ops : Array Oper} {rest : List Oper} {o : Oper} {a : Act} {Q : Exit → Act → World → Prop}
    (hgd : o.guard = none) (s x : Operand) (t : TypeId) (ho : o.op = .call { callee := .builtin .append, args := #[s, x], argTypes := #[t, t] })
    (e : TypeId) (z : Value) (bytes : Nat) (ht : Try.prog.underlying t = some (.slice e))
    (hinfo : (Try.prog.info? e).map (fun i => (i.zero, i.size, i.bytes)) = some (some z, 1, bytes)) (hz : z.cells.size = 1)
    (v : Value) (n : Nat) (xs : List Value) (hs : a.eval s = v) (hown : wr.ownsRow w.heap.size e 1 v n xs) (hsin : Since w wr)
    (y : Value) (hy : y.oneCell' = true) (hx : a.eval x = .slice (some ⟨wr.heap.size, 0, none⟩) 1 1)
    (hb : (n + 1) * bytes ≤ 140737488355328) (h63 : n + 1 ≤ maxLen)
    (h : ∀ v' w', w'.ownsRow w.heap.size e 1 v' (n + 1) (xs ++ [y]) → Since w w' → (∀ k, k < wr.heap.size → v.ownBlock ≠ some k → w'.heap[k]? = wr.heap[k]?) → wpList Try.prog ops Q rest (a.put o.dst v') w') :
    wpList Try.prog ops Q (o :: rest) a (wr.alloc (.cells #[y] e)) := by
  obtain ⟨i0, hi, hz0, hz1, hz2⟩ := info_parts hinfo
  refine wpList_append_own _ hgd s x t ho w.heap.size e i0 z 1 bytes ht hi hz0 hz1 hz2 hz (by decide) v n xs hs (hown.alloc _) ⟨wr.heap.size, 0, none⟩ 1 1 [y] hx rfl ?_ ?_ h63 hb ?_ ?_
  · intro j u hj
    match j, hj with
    | 0, hj => simp at hj; subst hj; simp [Addr.add]
  · intro u hu
    simp at hu; subst hu; exact hy
  · have := hsin.lt; simp; omega
  · intro v' w' h1 h2 _
    exact h v' w' h1 ((hsin.alloc _).grown h2 fun k hk => ((hown.alloc (.cells #[y] e)).lt k hk).1) (fun k hk hne => (h2.block k (by simp; omega) (fun e => hne e.symm)).trans (Below.heap_alloc wr _ _ hk))
theorem append_cells {w wr : World} {ops : Array Oper} {rest : List Oper} {o : Oper} {a : Act} {Q : Exit → Act → World → Prop}
    (hgd : o.guard = none) (s x : Operand) (t : TypeId) (ho : o.op = .call { callee := .builtin .append, args := #[s, x], argTypes := #[t, t] })
    (e : TypeId) (z : Value) (bytes : Nat) (ht : Try.prog.underlying t = some (.slice e))
    (hinfo : (Try.prog.info? e).map (fun i => (i.zero, i.size, i.bytes)) = some (some z, 1, bytes)) (hz : z.cells.size = 1)
    (v : Value) (n : Nat) (xs : List Value) (hs : a.eval s = v) (hown : wr.ownsRow w.heap.size e 1 v n xs) (hsin : Since w wr)
    (ys : List Value) (m : Nat) (hm : ys.length = m) (hy : ∀ u ∈ ys, u.oneCell' = true) (hx : a.eval x = .slice (some ⟨wr.heap.size, 0, none⟩) m m)
    (hb : (n + m) * bytes ≤ 140737488355328) (h63 : n + m ≤ maxLen)
    (h : ∀ v' w', w'.ownsRow w.heap.size e 1 v' (n + m) (xs ++ ys) → Since w w' → wpList Try.prog ops Q rest (a.put o.dst v') w') :
    wpList Try.prog ops Q (o :: rest) a (wr.alloc (.cells ys.toArray e)) := by
  obtain ⟨i0, hi, hz0, hz1, hz2⟩ := info_parts hinfo
  refine wpList_append_own _ hgd s x t ho w.heap.size e i0 z 1 bytes ht hi hz0 hz1 hz2 hz (by decide) v n xs hs (hown.alloc _) ⟨wr.heap.size, 0, none⟩ m m ys hx (by omega) ?_ hy h63 hb ?_ ?_
  · intro j u hj
    rw [show (⟨wr.heap.size, 0, none⟩ : Addr).add j = ⟨wr.heap.size, j, none⟩ from by by_cases h0 : j = 0 <;> simp [Addr.add, h0]]
    rw [World.cell?_alloc_at _ _ _ _ rfl]
    simpa using hj
  · have := hsin.lt; simp; omega
  · intro v' w' h1 h2 _
    exact h v' w' h1 ((hsin.alloc _).grown h2 fun k hk => ((hown.alloc (.cells ys.toArray e)).lt k hk).1)
/-- The same where the statement draws its order. -/
theorem step_append_cells {w wr : World} {ops : Array Oper} {o : Oper} {a : Act} {K : Act → World → Prop} {Q : Exit → Act → World → Prop} {E : Prop}
    (hgd : o.guard = none) (s x : Operand) (t : TypeId) (ho : o.op = .call { callee := .builtin .append, args := #[s, x], argTypes := #[t, t] })
    (e : TypeId) (z : Value) (bytes : Nat) (ht : Try.prog.underlying t = some (.slice e))
    (hinfo : (Try.prog.info? e).map (fun i => (i.zero, i.size, i.bytes)) = some (some z, 1, bytes)) (hz : z.cells.size = 1)
    (v : Value) (n : Nat) (xs : List Value) (hs : a.eval s = v) (hown : wr.ownsRow w.heap.size e 1 v n xs) (hsin : Since w wr)
    (ys : List Value) (m : Nat) (hm : ys.length = m) (hy : ∀ u ∈ ys, u.oneCell' = true) (hx : a.eval x = .slice (some ⟨wr.heap.size, 0, none⟩) m m)
    (hb : (n + m) * bytes ≤ 140737488355328) (h63 : n + m ≤ maxLen)
    (h : ∀ v' w', w'.ownsRow w.heap.size e 1 v' (n + m) (xs ++ ys) → Since w w' → K (a.put o.dst v') w') :
    if Region.wanted o (yielded ops a.tmps) = true then Oper.wp Try.prog o a (wr.alloc (.cells ys.toArray e)).drew K Q else E := by
  have hw : Region.wanted o (yielded ops a.tmps) = true := by simp [Region.wanted, hgd]
  rw [if_pos hw]
  obtain ⟨i0, hi, hz0, hz1, hz2⟩ := info_parts hinfo
  have hown' : (wr.alloc (.cells ys.toArray e)).drew.ownsRow w.heap.size e 1 v n xs := hown.alloc _
  refine wp_append_own _ s x t ho w.heap.size e i0 z 1 bytes ht hi hz0 hz1 hz2 hz (by decide) v n xs hs hown' ⟨wr.heap.size, 0, none⟩ m m ys hx (by omega) ?_ hy h63 hb ?_ ?_
  · intro j u hj
    rw [show (⟨wr.heap.size, 0, none⟩ : Addr).add j = ⟨wr.heap.size, j, none⟩ from by by_cases h0 : j = 0 <;> simp [Addr.add, h0]]
    show (wr.alloc (.cells ys.toArray e)).cell? ⟨wr.heap.size, j, none⟩ = some u
    rw [World.cell?_alloc_at _ _ _ _ rfl]
    simpa using hj
  · have := hsin.lt
    show w.heap.size ≤ (wr.alloc (.cells ys.toArray e)).heap.size
    simp; omega
  · intro v' w' h1 h2 _
    exact h v' w' h1 ((hsin.alloc (.cells ys.toArray e)).drew.grown h2 fun k hk => ((hown.alloc (.cells ys.toArray e)).lt k hk).1)
/-- A row of the call's own lies in no block of another element type. -/
theorem other_type {w : World} {base size : Nat} {e1 e2 : TypeId} {v : Value} {n g : Nat} {xs : List Value} {cur : Array Value} {fz : Nat × Nat} (h : w.ownsRow base e1 size v n xs) (hg : w.heap[g]? = some (.cells cur e2 fz)) (hne : e1 ≠ e2) : v.ownBlock ≠ some g := by
  rcases h.2 with ⟨rfl, _⟩ | ⟨g', cap, cur', rfl, _, hg', _⟩
  · exact fun e => by cases e
  · intro e
    have : g' = g := Option.some.inj e
    subst this
    rw [hg] at hg'
    exact hne (by cases hg'; rfl)
end Go.Proofs.Ytmaagihfjldgeaa

/- DecodeFixed, the model's and the program's: what each returns, at every string and width. -/
namespace Go.Proofs.Ytmaagihfjldgeaa
set_option maxRecDepth 100000
open Go.ChangeShapes Go.WideShapes Go.ChangeAt Go.RowKit

theorem l1In_any (x lo hi : Int) (w : World) :
    Calls Try.prog 83 #[.int .i64 x, .int .i64 lo, .int .i64 hi] w fun e w' => e = .returned (.bool (inB x lo hi)) ∧ w = w' := by
  by_cases h : x < lo
  · go_enter Try.func83, Try.ntmps83
    go_wp2
    go_ret
    exact ⟨ret_bool (by simp [inB]; omega), rfl⟩
  · go_enter Try.func83, Try.ntmps83
    go_wp2
    go_ret
    exact ⟨ret_bool (by simp [inB]; omega), rfl⟩

/-- The number whose digits to the base 256 these bytes are. -/
def beNat (l : List UInt8) : Nat := l.foldl (fun n b => n * 256 + b.toNat) 0
theorem beNat_snoc (l : List UInt8) (b : UInt8) : beNat (l ++ [b]) = beNat l * 256 + b.toNat := by
  simp [beNat, List.foldl_append]
theorem beNat_lt (l : List UInt8) : beNat l < 256 ^ l.length := by
  rw [← List.reverse_reverse l]
  induction l.reverse with
  | nil => simp [beNat]
  | cons b l ih =>
    rw [List.reverse_cons, beNat_snoc]; have := b.toNat_lt; simp [Nat.pow_succ] at *; omega
theorem beNat_take (s : ByteArray) (k : Nat) (h : k ≤ 6) : beNat (s.data.toList.take k) < 281474976710656 := by
  have h1 := beNat_lt (s.data.toList.take k)
  have h2 : 256 ^ (s.data.toList.take k).length ≤ 256 ^ k := Nat.pow_le_pow_right (by omega) (List.length_take_le _ _)
  have h3 : 256 ^ k ≤ 256 ^ 6 := Nat.pow_le_pow_right (by omega) h
  omega

end Go.Proofs.Ytmaagihfjldgeaa

/- Letters: which numbers are moves, letters; the inverse. -/
namespace Go.Proofs.Ytmaagihfjldgeaa
set_option maxRecDepth 100000
set_option linter.unusedVariables false
open Go.ChangeShapes Go.WideShapes Go.ChangeAt Go.RowKit

theorem inB_cases (x lo hi : Int) : (lo ≤ x ∧ x ≤ hi ∧ inB x lo hi = true) ∨ (x < lo ∧ inB x lo hi = false) ∨ (lo ≤ x ∧ hi < x ∧ inB x lo hi = false) := by
  by_cases h : lo ≤ x
  · by_cases h2 : x ≤ hi
    · exact .inl ⟨h, h2, inB_true h h2⟩
    · exact .inr (.inr ⟨h, by omega, inB_false (by omega)⟩)
  · exact .inr (.inl ⟨by omega, inB_false (by omega)⟩)
theorem l2Letter_any (x : Int) (w : World) : Calls Try.prog 84 #[.int .i64 x] w fun e w' => e = .returned (.bool (inB x 0 8)) ∧ w = w' := by
  go_enter Try.func84, Try.ntmps84
  go_wp2_with (go_at_call 83; refine (l1In_any _ _ _ _).mono ?_; rintro e w' ⟨rfl, rfl⟩)
  go_ret
  exact ⟨rfl, rfl⟩
theorem isLetter_any (x : Int) (w : World) : Calls Try.prog 139 #[.int .i64 x] w fun e w' => e = .returned (.bool (inB x 0 8)) ∧ w = w' := by
  rcases inB_cases x 0 8 with ⟨h0, h1, h⟩ | ⟨h0, h⟩ | ⟨h0, h1, h⟩
  · have h2 : x < 9 := by omega
    have H := Lib.hid h
    clear h h1
    go_enter Try.func139, Try.ntmps139
    go_wp2
    go_ret
    exact ⟨ret_bool H.out.symm, rfl⟩
  · have H := Lib.hid h
    clear h
    go_enter Try.func139, Try.ntmps139
    go_wp2
    go_ret
    exact ⟨ret_bool H.out.symm, rfl⟩
  · have h2 : ¬ x < 9 := by omega
    have H := Lib.hid h
    clear h h1
    go_enter Try.func139, Try.ntmps139
    go_wp2
    go_ret
    exact ⟨ret_bool H.out.symm, rfl⟩
/-- The letter that reads the same label in the other direction. -/
def invL (x : Int) : Int := bif inB x 0 5 then bits .xor .i64 x 1 else x
end Go.Proofs.Ytmaagihfjldgeaa

/- Slices of ints: how they read; the laws' own copies, comparisons, marks. -/
namespace Go.Proofs.Ytmaagihfjldgeaa
set_option maxRecDepth 100000
open Go.ChangeShapes Go.WideShapes Go.ChangeAt Go.RowKit

theorem heap_lt {w : World} {k : Nat} {o : Obj} (h : w.heap[k]? = some o) : k < w.heap.size := (Array.getElem?_eq_some_iff.1 h).1
theorem made_ints (n : Nat) : (madeCells (Value.int IntKind.i64 0).cells (n * 1)).toList = List.replicate n (.int .i64 0) := by
  rw [Nat.mul_one]; exact toList_madeCells_one _ n
theorem Since.drewN {w w' : World} (h : Since w w') (n : Nat) : Since w (w'.drewN n) := ⟨h.os, h.tape, h.output, h.size, h.block⟩
def icell (x : Int) : Value := .int .i64 x
def InI (x : Int) : Prop := -9223372036854775808 ≤ x ∧ x ≤ 9223372036854775807
/-- v is a slice that reads as xs. -/
def IntsAt (w : World) (v : Value) (xs : List Int) : Prop :=
  (∀ x ∈ xs, InI x) ∧ ((xs = [] ∧ ∃ ao cap, v = .slice ao 0 cap) ∨ ∃ b off cap, v = .slice (some ⟨b, off, none⟩) xs.length cap ∧ b < w.heap.size ∧ ∀ i (h : i < xs.length), w.cell? ⟨b, off + i, none⟩ = some (.int .i64 xs[i]))
theorem IntsAt.since {w w' : World} {v : Value} {xs : List Int} (h : IntsAt w v xs) (k : Since w w') : IntsAt w' v xs := by
  obtain ⟨h1, h2 | ⟨b, off, cap, h2, h3, h4⟩⟩ := h
  · exact ⟨h1, .inl h2⟩
  · exact ⟨h1, .inr ⟨b, off, cap, h2, Nat.lt_of_lt_of_le h3 k.size, fun i hi => (Below.cell k (p := ⟨b, off + i, none⟩) h3).trans (h4 i hi)⟩⟩
theorem IntsAt.grown {w w' : World} {v : Value} {xs : List Int} {row : Option Nat} (h : IntsAt w v xs) (k : w.grownBy w' row) (hr : v.ownBlock = none ∨ v.ownBlock ≠ row) : IntsAt w' v xs := by
  obtain ⟨h1, h2 | ⟨b, off, cap, h2, h3, h4⟩⟩ := h
  · exact ⟨h1, .inl h2⟩
  · refine ⟨h1, .inr ⟨b, off, cap, h2, Nat.lt_of_lt_of_le h3 k.size, fun i hi => ?_⟩⟩
    rw [World.cell?_of_block (w := w) (w' := w') (a := ⟨b, off + i, none⟩) (k.block b h3 (fun e => by subst h2; rcases hr with hr | hr <;> simp [Value.ownBlock] at hr; exact hr e))]
    exact h4 i hi
/-- v is a slice of the call's own (of a block from base on) that reads as xs. -/
def Own (base : Nat) (w : World) (v : Value) (xs : List Int) : Prop :=
  (∀ x ∈ xs, InI x) ∧ w.ownsRow base 3 1 v xs.length (xs.map icell)
theorem Own.at {base : Nat} {w : World} {v : Value} {xs : List Int} (h : Own base w v xs) : IntsAt w v xs := by
  obtain ⟨h1, h2⟩ := h
  have h2' := h2
  refine ⟨h1, ?_⟩
  rcases h2.2 with ⟨hv, hn⟩ | ⟨g, cap, cur, rfl, hb, hg, _⟩
  · exact .inl ⟨List.eq_nil_of_length_eq_zero hn, none, 0, hv⟩
  · refine .inr ⟨g, 0, cap, rfl, heap_lt hg, fun i hi => ?_⟩
    rw [Nat.zero_add, h2'.cellAt i (by omega)]
    simp [hi, icell]
theorem Own.mono {base base' : Nat} {w : World} {v : Value} {xs : List Int} (h : Own base w v xs) (hb : base' ≤ base) : Own base' w v xs := by
  obtain ⟨h1, h2, h3⟩ := h
  refine ⟨h1, h2, ?_⟩
  rcases h3 with h3 | ⟨g, cap, cur, a, b, c⟩
  · exact .inl h3
  · exact .inr ⟨g, cap, cur, a, Nat.le_trans hb b, c⟩
theorem Own.since {base : Nat} {w w' : World} {v : Value} {xs : List Int} (h : Own base w v xs) (k : Since w w') : Own base w' v xs := by
  obtain ⟨h1, h2, h3⟩ := h
  refine ⟨h1, h2, ?_⟩
  rcases h3 with h3 | ⟨g, cap, cur, a, b, c, d⟩
  · exact .inl h3
  · exact .inr ⟨g, cap, cur, a, b, (k.block g (heap_lt c)).trans c, d⟩
theorem info_int : (Try.prog.info? 3).map (fun i => (i.zero, i.size, i.bytes)) = some (some (.int .i64 0), 1, 8) := by kernel_rfl

theorem grow_tr {a b c : World} {row : Option Nat} (h : a.grownBy b row) (k : b.grownBy c row) : a.grownBy c row :=
  ⟨k.os.trans h.os, k.tape.trans h.tape, k.output.trans h.output, Nat.le_trans h.size k.size, fun i hi hn => (k.block i (Nat.lt_of_lt_of_le hi h.size) hn).trans (h.block i hi hn)⟩

def OwnOut (w : World) (xs : List Int) (e : Ending) (w' : World) : Prop := ∃ v, e = .returned v ∧ Own w.heap.size w' v xs ∧ Since w w'

set_option maxRecDepth 100000 in
theorem toIntS_any (v : Value) (xs : List Int) (w : World) (h : IntsAt w v xs) (hl : xs.length ≤ 1048577) :
    Calls Try.prog 113 #[v] w (OwnOut w xs) := by
  obtain ⟨i0, hi, hz0, hz1, hz2⟩ := info_parts info_int
  have HZ2 := Lib.hid hz2
  clear hz2
  obtain ⟨hin, ⟨rfl, ao, cap, rfl⟩ | ⟨b, off, cap, rfl, hb, hcell⟩⟩ := h
  · go_enter Try.func113, Try.ntmps113
    go_wp2_with (at_make; go_must (refine wpList_make_full _ rfl _ _ 24 rfl w.heap.size 3 i0 (.int .i64 0) 1 Try.underlying24 hi hz0 hz1 .i64 .i64 _ _ 0 rfl rfl rfl rfl (by rw [HZ2.out]; omega) (by unfold maxLen; omega) (Nat.le_refl _) ?_); intro w1 hown hgrow)
    have hsin : Since w w1 := (Since.refl w).grown hgrow (fun _ h => by simp at h)
    rw [made_ints] at hown
    go_loopw [4] (fun i wr => i = .int .i64 0 ∧ wr = w1) (fun _ _ => 0)
    case atStart => exact ⟨rfl, rfl⟩
    case round =>
      obtain ⟨rfl, rfl⟩ := hrel
      go_wp2
      go_ret
      exact ⟨_, rfl, ⟨fun x hx => by simp at hx, hown⟩, hsin⟩
  · have HIN := Lib.hid hin
    have HCELL := Lib.hid hcell
    clear hin hcell
    obtain ⟨n, hn⟩ : ∃ n, n = xs.length := ⟨_, rfl⟩
    rw [← hn]
    have hn9 : n ≤ 1048577 := by omega
    have HN := Lib.hid hn
    clear hn hl
    go_enter Try.func113, Try.ntmps113
    go_wp2_with (at_make; go_must (refine wpList_make_full _ rfl _ _ 24 rfl w.heap.size 3 i0 (.int .i64 0) 1 Try.underlying24 hi hz0 hz1 .i64 .i64 _ _ n rfl rfl rfl rfl (by rw [HZ2.out]; omega) (by unfold maxLen; omega) (Nat.le_refl _) ?_); intro w1 hown hgrow)
    have hsin : Since w w1 := (Since.refl w).grown hgrow (fun _ h => by simp at h)
    have hrow : w1.ownsRow w.heap.size 3 1 (.slice (some ⟨w.heap.size, 0, none⟩) n n) n (filled (xs.map icell) (icell 0) 0) := by
      rw [filled_zero, List.length_map, ← HN.out]
      rw [made_ints] at hown
      exact hown
    clear hown hgrow
    go_loopw [4] (fun i wr => ∃ k : Nat, k ≤ n ∧ i = .int .i64 k ∧ wr.ownsRow w.heap.size 3 1 (.slice (some ⟨w.heap.size, 0, none⟩) n n) n (filled (xs.map icell) (icell 0) k) ∧ Since w wr) (fun i _ => n - (intOf i).toNat)
    case atStart => exact ⟨0, Nat.zero_le _, rfl, hrow, hsin⟩
    case round =>
      obtain ⟨k, hk, rfl, hown, hsin⟩ := hrel
      by_cases hlt : k < n
      · have hkx : k < xs.length := by have := HN.out; omega
        have hsrc : wr.cell? ⟨b, off + k, none⟩ = some (.int .i64 xs[k]) := (Below.cell hsin (p := ⟨b, off + k, none⟩) hb).trans (HCELL.out k hkx)
        have hdst : (wr.cell? ⟨w.heap.size, k, none⟩) = some (icell 0) := (hown.cellAt k (by omega)).trans (filled_at _ _ k (by simpa using hkx))
        unfold icell at hdst
        have hfz := hown.frozenAt k
        have hst := (hown.stored k (.int .i64 xs[k])).1
        have hfs := filled_set (xs.map icell) (icell 0) k (by simpa using hkx)
        rw [List.getElem_map] at hfs
        rw [show (Value.int .i64 xs[k]) = icell xs[k] from rfl, hfs] at hst
        have HST := Lib.hid hst
        clear hst hfs
        go_wp2
        go_roundw
        case rel => exact ⟨k + 1, by omega, by go_num, HST.out, hsin.setCell (Nat.le_refl _) _⟩
        case measure => simp [intOf]; omega
      · obtain rfl : k = n := by omega
        have hfin := filled_all (xs.map icell) (icell 0) k (by rw [List.length_map, ← HN.out]; exact Nat.le_refl _)
        rw [hfin] at hown
        go_wp2
        go_ret
        exact ⟨_, rfl, ⟨HIN.out, by rw [← HN.out]; exact hown⟩, hsin⟩

theorem take_eq_step {xs ys : List Int} (k : Nat) (h1 : k < xs.length) (h2 : k < ys.length) (h : xs.take k = ys.take k) (he : xs[k] = ys[k]) : xs.take (k + 1) = ys.take (k + 1) := by
  rw [List.take_succ_eq_append_getElem h1, List.take_succ_eq_append_getElem h2, h, he]
theorem ne_of_at {xs ys : List Int} (k : Nat) (h1 : k < xs.length) (h2 : k < ys.length) (he : xs[k] ≠ ys[k]) : xs ≠ ys := by
  intro e; subst e; exact he rfl

set_option maxRecDepth 100000 in
theorem eqIntS_any (a b : Value) (xs ys : List Int) (w : World) (ha : IntsAt w a xs) (hb : IntsAt w b ys) (hl : xs.length ≤ 4611686018427387904) (hl2 : ys.length ≤ 4611686018427387904) :
    Calls Try.prog 48 #[a, b] w fun e w' => e = .returned (.bool (decide (xs = ys))) ∧ Since w w' := by
  by_cases hlen : xs.length = ys.length
  · obtain ⟨_, ⟨rfl, ao, cap, rfl⟩ | ⟨b1, off1, cap1, rfl, hb1, hc1⟩⟩ := ha
    · obtain rfl : ys = [] := List.eq_nil_of_length_eq_zero hlen.symm
      obtain ⟨_, ⟨_, ao2, cap2, rfl⟩ | ⟨b2, off2, cap2, rfl, hb2, hc2⟩⟩ := hb
      all_goals
        go_enter Try.func48, Try.ntmps48
        go_wp2
        go_loopw [5] (fun i wr => i = .int .i64 0 ∧ wr = w) (fun _ _ => 0)
        case atStart => exact ⟨rfl, rfl⟩
        case round =>
          obtain ⟨rfl, rfl⟩ := hrel
          go_wp2
          go_ret
          exact ⟨by simp, Since.refl _⟩
    · obtain ⟨_, ⟨rfl, ao2, cap2, rfl⟩ | ⟨b2, off2, cap2, rfl, hb2, hc2⟩⟩ := hb
      · obtain rfl : xs = [] := List.eq_nil_of_length_eq_zero hlen
        go_enter Try.func48, Try.ntmps48
        go_wp2
        go_loopw [5] (fun i wr => i = .int .i64 0 ∧ wr = w) (fun _ _ => 0)
        case atStart => exact ⟨rfl, rfl⟩
        case round =>
          obtain ⟨rfl, rfl⟩ := hrel
          go_wp2
          go_ret
          exact ⟨by simp, Since.refl _⟩
      · have HC1 := Lib.hid hc1
        have HC2 := Lib.hid hc2
        clear hc1 hc2
        rw [← hlen]
        obtain ⟨n, hn⟩ : ∃ n, n = xs.length := ⟨_, rfl⟩
        rw [← hn]
        have hn9 : n ≤ 4611686018427387904 := by omega
        have HN := Lib.hid hn
        have HN2 : Hid (n = ys.length) := by rw [hn]; exact hlen
        have HNE : (((n : Nat) : Int) != ((n : Nat) : Int)) = false := by simp
        clear hn hlen hl hl2
        go_enter Try.func48, Try.ntmps48
        go_wp2
        go_loopw [5] (fun i wr => ∃ k : Nat, k ≤ n ∧ i = .int .i64 k ∧ Hid (xs.take k = ys.take k) ∧ Since w wr) (fun i _ => n - (intOf i).toNat)
        case atStart => exact ⟨0, Nat.zero_le _, rfl, rfl, Since.refl w⟩
        case round =>
          obtain ⟨k, hk, rfl, HT, hsin⟩ := hrel
          by_cases hlt : k < n
          · have hx : k < xs.length := by have := HN.out; omega
            have hy : k < ys.length := by have := HN2.out; omega
            have h1 : wr.cell? ⟨b1, off1 + k, none⟩ = some (.int .i64 xs[k]) := (Below.cell hsin (p := ⟨b1, off1 + k, none⟩) hb1).trans (HC1.out k hx)
            have h2 : wr.cell? ⟨b2, off2 + k, none⟩ = some (.int .i64 ys[k]) := (Below.cell hsin (p := ⟨b2, off2 + k, none⟩) hb2).trans (HC2.out k hy)
            have hki : (k : Int) < (n : Int) := by omega
            have hk0 : (0 : Int) ≤ (k : Int) := by omega
            by_cases he : xs[k] = ys[k]
            · have HE : Hid (xs.take (k + 1) = ys.take (k + 1)) := take_eq_step k hx hy HT.out he
              rw [← he] at h2
              have hb0 : (xs[k] != xs[k]) = false := by simp
              clear he
              go_wp2
              go_quiet (fail)
              go_wp2
              go_roundw
              case rel => exact ⟨k + 1, by omega, by go_num, HE, hsin.drewN _⟩
              case measure => simp [intOf]; omega
            · have HE : Hid (decide (xs = ys) = false) := by unfold Hid; simpa using ne_of_at k hx hy he
              have hb0 : (xs[k] != ys[k]) = true := by simpa using he
              clear he
              go_wp2
              go_quiet (fail)
              go_wp2
              go_ret
              exact ⟨ret_bool HE.out.symm, hsin.drewN _⟩
          · obtain rfl : k = n := by omega
            have HE : Hid (decide (xs = ys) = true) := by
              have := HT.out
              rw [List.take_of_length_le (by have := HN.out; omega), List.take_of_length_le (by have := HN2.out; omega)] at this
              unfold Hid; simpa using this
            go_wp2
            go_ret
            exact ⟨ret_bool HE.out.symm, hsin⟩
  · have HE : Hid (decide (xs = ys) = false) := by unfold Hid; simp; intro e; rw [e] at hlen; exact hlen rfl
    have hne : ((xs.length : Int) != (ys.length : Int)) = true := by simp; omega
    have va : ∃ ao c, a = .slice ao xs.length c := by
      obtain ⟨_, ⟨rfl, ao, cap, rfl⟩ | ⟨b1, off1, cap1, rfl, hb1, hc1⟩⟩ := ha
      · exact ⟨_, _, rfl⟩
      · exact ⟨_, _, rfl⟩
    have vb : ∃ ao c, b = .slice ao ys.length c := by
      obtain ⟨_, ⟨rfl, ao, cap, rfl⟩ | ⟨b1, off1, cap1, rfl, hb1, hc1⟩⟩ := hb
      · exact ⟨_, _, rfl⟩
      · exact ⟨_, _, rfl⟩
    obtain ⟨ao, c, rfl⟩ := va
    obtain ⟨ao2, c2, rfl⟩ := vb
    obtain ⟨n, hn⟩ : ∃ n, n = xs.length := ⟨_, rfl⟩
    obtain ⟨m, hm⟩ : ∃ m, m = ys.length := ⟨_, rfl⟩
    rw [← hn, ← hm] at hne ⊢
    have hn9 : n ≤ 4611686018427387904 := by omega
    have hm9 : m ≤ 4611686018427387904 := by omega
    clear hn hm ha hb hlen hl hl2
    go_enter Try.func48, Try.ntmps48
    go_wp2
    go_ret
    exact ⟨ret_bool HE.out.symm, Since.refl _⟩

/-- What markIntS writes: k, k + 1, .. -/
def count (k : Int) (n : Nat) : List Int := (List.range n).map fun (i : Nat) => k + (i : Int)
theorem count_length (k : Int) (n : Nat) : (count k n).length = n := by simp [count]
theorem count_at (k : Int) (n i : Nat) (h : i < n) : (count k n)[i]'(by rw [count_length]; exact h) = k + (i : Int) := by simp [count]
/-- a row xs of which the first j are written. -/
def marked (xs : List Int) (k : Int) (j : Nat) : List Value := (count k j).map icell ++ (xs.drop j).map icell
theorem marked_zero (xs : List Int) (k : Int) : marked xs k 0 = xs.map icell := by simp [marked, count]
theorem marked_all (xs : List Int) (k : Int) : marked xs k xs.length = (count k xs.length).map icell := by simp [marked]
theorem marked_set (xs : List Int) (k : Int) (j : Nat) (h : j < xs.length) : (marked xs k j).set j (.int .i64 (k + (j : Int))) = marked xs k (j + 1) := by
  unfold marked
  rw [List.set_append_right _ _ (by simp [count]), List.length_map, count_length, Nat.sub_self, List.drop_eq_getElem_cons h, List.map_cons, List.set_cons_zero]
  have : count k (j + 1) = count k j ++ [k + (j : Int)] := by simp [count, List.range_succ]
  rw [this, List.map_append, List.append_assoc]; rfl
theorem marked_at (xs : List Int) (k : Int) (j : Nat) (h : j < xs.length) : (marked xs k j)[j]? = some (icell xs[j]) := by
  unfold marked
  rw [List.getElem?_append_right (by simp [count]), List.length_map, count_length, Nat.sub_self, List.getElem?_map]
  simp [h]

def MarkOut (base : Nat) (w : World) (v : Value) (k : Int) (n : Nat) (e : Ending) (w' : World) : Prop :=
  e = .returned (.int .i64 (k + n)) ∧ Own base w' v (count k n) ∧ w.grownBy w' v.ownBlock

set_option maxRecDepth 100000 in
theorem markIntS_any (base : Nat) (v : Value) (xs : List Int) (k : Int) (w : World) (h : Own base w v xs) (hk0 : 0 ≤ k) (hk9 : k ≤ 2305843009213693952) (hl : xs.length ≤ 2305843009213693952) :
    Calls Try.prog 51 #[v, .int .i64 k] w (MarkOut base w v k xs.length) := by
  obtain ⟨_, hown⟩ := h
  have hcase : v = .slice none 0 0 ∧ xs.length = 0 ∨ ∃ g cap, v = .slice (some ⟨g, 0, none⟩) xs.length cap ∧ base ≤ g := by
    rcases hown.2 with ⟨a, b⟩ | ⟨g, cap, cur, a, b, _⟩
    · exact .inl ⟨a, b⟩
    · exact .inr ⟨g, cap, a, b⟩
  have hcin : ∀ n : Nat, n ≤ 2305843009213693952 → ∀ x ∈ count k n, InI x := by
    intro n hn x hx
    simp [count] at hx
    obtain ⟨i, hi, rfl⟩ := hx
    unfold InI; omega
  obtain ⟨n, hn⟩ : ∃ n, n = xs.length := ⟨_, rfl⟩
  rw [← hn] at hcase hown hl ⊢
  have hcn := hcin n (by omega)
  have HCN := Lib.hid hcn
  clear hcin hcn
  rcases hcase with ⟨rfl, hn0⟩ | ⟨g, cap, rfl, hg⟩
  · subst hn0
    clear hn hown
    go_enter Try.func51, Try.ntmps51
    go_wp2
    go_loopw [1, 5] (fun q i wr => q = .int .i64 k ∧ i = .int .i64 0 ∧ wr = w) (fun _ _ _ => 0)
    case atStart => exact ⟨rfl, rfl, rfl⟩
    case round =>
      obtain ⟨rfl, rfl, rfl⟩ := hrel
      go_wp2
      go_ret
      exact ⟨ret_int (by simp), ⟨HCN.out, by simp [count]; exact World.ownsRow_nil _ _ _ _⟩, ⟨rfl, rfl, rfl, Nat.le_refl _, fun _ _ _ => rfl⟩⟩
  · have hown0 : w.ownsRow base 3 1 (.slice (some ⟨g, 0, none⟩) n cap) n (marked xs k 0) := by rw [marked_zero]; exact hown
    clear hown
    have HN := Lib.hid hn
    clear hn
    go_enter Try.func51, Try.ntmps51
    go_wp2
    go_loopw [1, 5] (fun q i wr => ∃ j : Nat, j ≤ n ∧ i = .int .i64 j ∧ q = .int .i64 (k + j) ∧ wr.ownsRow base 3 1 (.slice (some ⟨g, 0, none⟩) n cap) n (marked xs k j) ∧ w.grownBy wr (some g)) (fun _ i _ => n - (intOf i).toNat)
    case atStart => exact ⟨0, Nat.zero_le _, rfl, by simp, hown0, ⟨rfl, rfl, rfl, Nat.le_refl _, fun _ _ _ => rfl⟩⟩
    case round =>
      obtain ⟨j, hj, rfl, rfl, hown, hgr⟩ := hrel
      by_cases hlt : j < n
      · have hx : j < xs.length := by have := HN.out; omega
        have hdst := (hown.cellAt j (by omega)).trans (marked_at xs k j hx)
        unfold icell at hdst
        have hfz := hown.frozenAt j
        have hst := hown.stored j (.int .i64 (k + (j : Int)))
        rw [marked_set xs k j hx] at hst
        have HST := Lib.hid hst.1
        have HG := Lib.hid (grow_tr hgr hst.2)
        clear hst
        go_wp2
        go_roundw
        case rel => exact ⟨j + 1, by omega, by go_num, by go_num, HST.out, HG.out⟩
        case measure => simp [intOf]; omega
      · obtain rfl : j = n := by omega
        have hr : marked xs k j = (count k j).map icell := by
          have := HN.out; subst this; exact marked_all xs k
        rw [hr] at hown
        go_wp2
        go_ret
        exact ⟨rfl, ⟨HCN.out, by rw [count_length]; exact hown⟩, hgr⟩

set_option maxRecDepth 100000 in
theorem heldIntS_any (v : Value) (k : Int) (n : Nat) (w : World) (h : IntsAt w v (count k n)) (hk0 : 0 ≤ k) (hk9 : k ≤ 2305843009213693952) (hl : n ≤ 2305843009213693952) :
    Calls Try.prog 52 #[v, .int .i64 k] w fun e w' => e = .returned (.int .i64 (k + n)) ∧ w = w' := by
  obtain ⟨_, ⟨hnil, ao, cap, rfl⟩ | ⟨b, off, cap, rfl, hb, hc⟩⟩ := h
  · obtain rfl : n = 0 := by have := congrArg List.length hnil; simpa [count] using this
    clear hnil
    go_enter Try.func52, Try.ntmps52
    go_wp2
    go_loop [1, 5] (fun q i => q = .int .i64 k ∧ i = .int .i64 0) (fun _ _ => 0)
    case atStart => exact ⟨rfl, rfl⟩
    case round =>
      obtain ⟨rfl, rfl⟩ := hrel
      go_wp2
      go_ret
      exact ⟨ret_int (by simp), rfl⟩
  · rw [count_length]
    have hc2 : ∀ i, i < n → w.cell? ⟨b, off + i, none⟩ = some (.int .i64 (k + (i : Int))) := fun i hi => by
      rw [hc i (by rw [count_length]; exact hi), count_at k n i hi]
    clear hc
    have HC := Lib.hid hc2
    clear hc2
    go_enter Try.func52, Try.ntmps52
    go_wp2
    go_loop [1, 5] (fun q i => ∃ j : Nat, j ≤ n ∧ i = .int .i64 j ∧ q = .int .i64 (k + j)) (fun _ i => n - (intOf i).toNat)
    case atStart => exact ⟨0, Nat.zero_le _, rfl, by simp⟩
    case round =>
      obtain ⟨j, hj, rfl, rfl⟩ := hrel
      by_cases hlt : j < n
      · have hcell := HC.out j hlt
        have hbe : (k + (j : Int) != k + (j : Int)) = false := by simp
        go_wp2
        go_round
        case rel => exact ⟨j + 1, by omega, by go_num, by go_num⟩
        case measure => simp [intOf]; omega
      · obtain rfl : j = n := by omega
        go_wp2
        go_ret
        exact ⟨rfl, rfl⟩
end Go.Proofs.Ytmaagihfjldgeaa

/- Comparing words: shorter lists first, then element by element. -/
namespace Go.Proofs.Ytmaagihfjldgeaa
set_option maxRecDepth 100000
open Go.ChangeShapes Go.WideShapes Go.ChangeAt Go.RowKit
set_option linter.unusedVariables false

def cmpI (a b : Int) : Int := if a < b then -1 else if b < a then 1 else 0
/-- Element by element; a list that ends first is less. -/
def lexC : List Int → List Int → Int
  | [], [] => 0
  | [], _ :: _ => -1
  | _ :: _, [] => 1
  | x :: xs, y :: ys => if x < y then -1 else if y < x then 1 else lexC xs ys
def cmpW (xs ys : List Int) : Int := if xs.length < ys.length then -1 else if ys.length < xs.length then 1 else lexC xs ys
theorem lexC_split (xs ys : List Int) (k : Nat) (h : xs.take k = ys.take k) (hx : k ≤ xs.length) (hy : k ≤ ys.length) : lexC xs ys = lexC (xs.drop k) (ys.drop k) := by
  induction k generalizing xs ys with
  | zero => rfl
  | succ k ih =>
    cases xs with
    | nil => simp at hx
    | cons x xs =>
      cases ys with
      | nil => simp at hy
      | cons y ys =>
        simp only [List.take_succ_cons, List.cons.injEq] at h
        obtain ⟨rfl, h⟩ := h
        simp only [List.length_cons] at hx hy
        rw [List.drop_succ_cons, List.drop_succ_cons, ← ih xs ys h (by omega) (by omega)]
        simp [lexC]
theorem lexC_lt (xs ys : List Int) (k : Nat) (h : xs.take k = ys.take k) (hx : k < xs.length) (hy : k < ys.length) (hlt : xs[k] < ys[k]) : lexC xs ys = -1 := by
  rw [lexC_split xs ys k h (by omega) (by omega), List.drop_eq_getElem_cons hx, List.drop_eq_getElem_cons hy]
  simp [lexC, hlt]
theorem lexC_gt (xs ys : List Int) (k : Nat) (h : xs.take k = ys.take k) (hx : k < xs.length) (hy : k < ys.length) (hlt : ys[k] < xs[k]) : lexC xs ys = 1 := by
  rw [lexC_split xs ys k h (by omega) (by omega), List.drop_eq_getElem_cons hx, List.drop_eq_getElem_cons hy]
  simp [lexC, hlt]; omega
theorem lexC_end_x (xs ys : List Int) (h : xs.take xs.length = ys.take xs.length) (hy : xs.length < ys.length) : lexC xs ys = -1 := by
  rw [lexC_split xs ys xs.length h (by omega) (by omega), List.drop_of_length_le (Nat.le_refl _), List.drop_eq_getElem_cons hy]
  simp [lexC]
theorem lexC_end_y (xs ys : List Int) (h : xs.take ys.length = ys.take ys.length) (hy : ys.length < xs.length) : lexC xs ys = 1 := by
  rw [lexC_split xs ys ys.length h (by omega) (by omega), List.drop_of_length_le (Nat.le_refl ys.length), List.drop_eq_getElem_cons hy]
  simp [lexC]
theorem lexC_same (xs ys : List Int) (k : Nat) (hx : xs.length = k) (hy : ys.length = k) (h : xs.take k = ys.take k) : lexC xs ys = 0 := by
  rw [lexC_split xs ys k h (by omega) (by omega), List.drop_of_length_le (by omega), List.drop_of_length_le (by omega)]
  rfl
theorem lexC_self (xs : List Int) : lexC xs xs = 0 := lexC_same xs xs xs.length rfl rfl rfl

/-- Two slices opened side by side: lengths, and the cells wherever there are some. -/
theorem IntsAt.open {w : World} {v : Value} {xs : List Int} (h : IntsAt w v xs) :
    (∃ ao cap, v = .slice ao 0 cap ∧ xs = []) ∨ ∃ b off cap, v = .slice (some ⟨b, off, none⟩) xs.length cap ∧ b < w.heap.size ∧ Hid (∀ i (h : i < xs.length), w.cell? ⟨b, off + i, none⟩ = some (.int .i64 xs[i])) := by
  obtain ⟨_, ⟨rfl, ao, cap, rfl⟩ | ⟨b, off, cap, rfl, hb, hc⟩⟩ := h
  · exact .inl ⟨ao, cap, rfl, rfl⟩
  · exact .inr ⟨b, off, cap, rfl, hb, hc⟩

theorem cmpI_cases (a b : Int) : (a < b ∧ cmpI a b = -1) ∨ (b < a ∧ cmpI a b = 1) ∨ (a = b ∧ cmpI a b = 0) := by
  unfold cmpI
  by_cases h1 : a < b
  · exact .inl ⟨h1, by rw [if_pos h1]⟩
  · by_cases h2 : b < a
    · exact .inr (.inl ⟨h2, by rw [if_neg h1, if_pos h2]⟩)
    · exact .inr (.inr ⟨by omega, by rw [if_neg h1, if_neg h2]⟩)

set_option maxHeartbeats 1600000 in
set_option maxRecDepth 100000 in
theorem l2Cmp_any (a b : Value) (xs ys : List Int) (w : World) (ha : IntsAt w a xs) (hb : IntsAt w b ys) (hl : xs.length ≤ 4611686018427387904) (hl2 : ys.length ≤ 4611686018427387904) :
    Calls Try.prog 159 #[a, b] w fun e w' => e = .returned (.int .i64 (lexC xs ys)) ∧ Since w w' := by
  have ha' : ∃ ao c, a = .slice ao xs.length c ∧ Hid (∀ i (h : i < xs.length), ∃ b off, ao = some ⟨b, off, none⟩ ∧ b < w.heap.size ∧ w.cell? ⟨b, off + i, none⟩ = some (.int .i64 xs[i])) := by
    rcases ha.open with ⟨ao2, c2, rfl, rfl⟩ | ⟨b2, off2, c2, rfl, hb2, HC⟩
    · exact ⟨_, _, rfl, fun i h => by simp at h⟩
    · exact ⟨_, _, rfl, fun i h => ⟨_, _, rfl, hb2, HC.out i h⟩⟩
  have hb' : ∃ ao2 c2, b = .slice ao2 ys.length c2 ∧ Hid (∀ i (h : i < ys.length), ∃ b2 off2, ao2 = some ⟨b2, off2, none⟩ ∧ b2 < w.heap.size ∧ w.cell? ⟨b2, off2 + i, none⟩ = some (.int .i64 ys[i])) := by
    rcases hb.open with ⟨ao2, c2, rfl, rfl⟩ | ⟨b2, off2, c2, rfl, hb2, HC⟩
    · exact ⟨_, _, rfl, fun i h => by simp at h⟩
    · exact ⟨_, _, rfl, fun i h => ⟨_, _, rfl, hb2, HC.out i h⟩⟩
  obtain ⟨ao, c, rfl, HC1⟩ := ha'
  obtain ⟨ao2, c2, rfl, HC2⟩ := hb'
  obtain ⟨n, hn⟩ : ∃ n, n = xs.length := ⟨_, rfl⟩
  obtain ⟨m, hm⟩ : ∃ m, m = ys.length := ⟨_, rfl⟩
  rw [← hn, ← hm]
  have hn9 : n ≤ 4611686018427387904 := by omega
  have hm9 : m ≤ 4611686018427387904 := by omega
  have HN := Lib.hid hn
  have HM := Lib.hid hm
  clear hn hm hl hl2 ha hb
  go_enter Try.func159, Try.ntmps159
  go_wp2
  go_loopw [5] (fun i wr => ∃ k : Nat, k ≤ n ∧ k ≤ m ∧ i = .int .i64 k ∧ Hid (xs.take k = ys.take k) ∧ Since w wr) (fun i _ => n - (intOf i).toNat)
  case atStart => exact ⟨0, Nat.zero_le _, Nat.zero_le _, rfl, rfl, Since.refl w⟩
  case round =>
    obtain ⟨k, hk, hkm, rfl, HT, hsin⟩ := hrel
    by_cases hlt : k < n
    · have hki : (k : Int) < (n : Int) := by omega
      by_cases hlm : k < m
      · have hkj : (k : Int) < (m : Int) := by omega
        have hk0 : (0 : Int) ≤ (k : Int) := by omega
        have hx : k < xs.length := by have := HN.out; omega
        have hy : k < ys.length := by have := HM.out; omega
        obtain ⟨b1, off1, rfl, hb1, h1'⟩ := HC1.out k hx
        obtain ⟨b2, off2, rfl, hb2, h2'⟩ := HC2.out k hy
        have h1 : wr.cell? ⟨b1, off1 + k, none⟩ = some (.int .i64 xs[k]) := (Below.cell hsin (p := ⟨b1, off1 + k, none⟩) hb1).trans h1'
        have h2 : wr.cell? ⟨b2, off2 + k, none⟩ = some (.int .i64 ys[k]) := (Below.cell hsin (p := ⟨b2, off2 + k, none⟩) hb2).trans h2'
        clear h1' h2'
        rcases cmpI_cases xs[k] ys[k] with ⟨h3, h4⟩ | ⟨h3, h4⟩ | ⟨h3, h4⟩
        · have HR := Lib.hid (lexC_lt xs ys k HT.out hx hy h3)
          have hd : decide (xs[k] < ys[k]) = true := by simpa using h3
          clear h4
          go_wp2
          go_quiet (fail)
          go_wp2
          go_ret
          exact ⟨ret_int HR.out.symm, by first | exact hsin.drewN _ | exact (hsin.drewN _).drewN _⟩
        · have HR := Lib.hid (lexC_gt xs ys k HT.out hx hy h3)
          have hd : decide (xs[k] < ys[k]) = false := by simp; omega
          have hd2 : decide (ys[k] < xs[k]) = true := by simpa using h3
          clear h4
          go_wp2
          go_quiet (fail)
          go_wp2
          go_quiet (fail)
          go_wp2
          go_ret
          exact ⟨ret_int HR.out.symm, by first | exact hsin.drewN _ | exact (hsin.drewN _).drewN _⟩
        · have HR := Lib.hid (take_eq_step k hx hy HT.out h3)
          have hd : decide (xs[k] < ys[k]) = false := by simp; omega
          have hd2 : decide (ys[k] < xs[k]) = false := by simp; omega
          clear h4 h3
          go_wp2
          go_quiet (fail)
          go_wp2
          go_quiet (fail)
          go_wp2
          go_roundw
          case rel => exact ⟨k + 1, by omega, by omega, by go_num, HR, by first | exact hsin.drewN _ | exact (hsin.drewN _).drewN _⟩
          case measure => simp [intOf]; omega
      · have hkj : ¬ (k : Int) < (m : Int) := by omega
        have hmk : (m : Int) < (n : Int) := by omega
        have hmk2 : ¬ (n : Int) < (m : Int) := by omega
        have HR : Hid (lexC xs ys = 1) := lexC_end_y xs ys (by have h := HT.out; rw [show k = ys.length from by have := HM.out; omega] at h; exact h) (by have := HM.out; have := HN.out; omega)
        go_wp2
        go_ret
        exact ⟨ret_int HR.out.symm, hsin⟩
    · obtain rfl : k = n := by omega
      have hki : ¬ (k : Int) < (k : Int) := by omega
      by_cases hnm : k < m
      · have hnmi : (k : Int) < (m : Int) := by omega
        have HR : Hid (lexC xs ys = -1) := lexC_end_x xs ys (by have h := HT.out; rw [HN.out] at h; exact h) (by have := HN.out; have := HM.out; omega)
        go_wp2
        go_ret
        exact ⟨ret_int HR.out.symm, hsin⟩
      · have hnmi : ¬ (k : Int) < (m : Int) := by omega
        have hnmj : ¬ (m : Int) < (k : Int) := by omega
        have HR : Hid (lexC xs ys = 0) := lexC_same xs ys k HN.out.symm (by have := HM.out; omega) HT.out
        go_wp2
        go_ret
        exact ⟨ret_int HR.out.symm, hsin⟩

theorem IntsAt.len {w : World} {v : Value} {xs : List Int} (h : IntsAt w v xs) : ∃ ao c, v = .slice ao xs.length c := by
  rcases h.open with ⟨ao2, c2, rfl, rfl⟩ | ⟨b2, off2, c2, rfl, hb2, HC⟩
  · exact ⟨_, _, rfl⟩
  · exact ⟨_, _, rfl⟩
end Go.Proofs.Ytmaagihfjldgeaa

/- Edges as plain data: four ints each; how a list of them lies in cells. -/
namespace Go.Proofs.Ytmaagihfjldgeaa
set_option maxRecDepth 100000
open Go.ChangeShapes Go.WideShapes Go.ChangeAt Go.RowKit

structure Edg where
  id : Int
  fr : Int
  to : Int
  lb : Int
theorem Edg.ext4 {a b : Edg} (h1 : a.id = b.id) (h2 : a.fr = b.fr) (h3 : a.to = b.to) (h4 : a.lb = b.lb) : a = b := by
  cases a; cases b; simp_all
theorem Edg.eq_iff (a b : Edg) : a = b ↔ (a.id = b.id ∧ a.fr = b.fr ∧ a.to = b.to ∧ a.lb = b.lb) :=
  ⟨fun h => by subst h; exact ⟨rfl, rfl, rfl, rfl⟩, fun h => Edg.ext4 h.1 h.2.1 h.2.2.1 h.2.2.2⟩
instance : DecidableEq Edg := fun a b => decidable_of_iff _ (Edg.eq_iff a b).symm
def Edg.cs (e : Edg) : List Value := [.int .i64 e.id, .int .i64 e.fr, .int .i64 e.to, .int .i64 e.lb]
/-- The value of an edge. -/
abbrev ev (e : Edg) : Value := .agg #[.int .i64 e.id, .int .i64 e.fr, .int .i64 e.to, .int .i64 e.lb]
def Edg.In (e : Edg) : Prop := InI e.id ∧ InI e.fr ∧ InI e.to ∧ InI e.lb
def zeroE : Edg := ⟨0, 0, 0, 0⟩
theorem zeroE_in : zeroE.In := by unfold Edg.In InI zeroE; simp
def ecells (xs : List Edg) : List Value := xs.flatMap Edg.cs
theorem ecells_nil : ecells [] = [] := rfl
theorem ecells_cons (x : Edg) (xs : List Edg) : ecells (x :: xs) = x.cs ++ ecells xs := rfl
theorem ecells_append (xs ys : List Edg) : ecells (xs ++ ys) = ecells xs ++ ecells ys := by simp [ecells]
theorem ecells_length (xs : List Edg) : (ecells xs).length = xs.length * 4 := by
  induction xs with
  | nil => rfl
  | cons x xs ih => rw [ecells_cons, List.length_append, ih, List.length_cons]; simp [Edg.cs]; omega
theorem ecells_take (xs : List Edg) (k : Nat) : (ecells xs).take (k * 4) = ecells (xs.take k) := by
  induction xs generalizing k with
  | nil => simp [ecells]
  | cons x xs ih =>
    cases k with
    | zero => simp [ecells]
    | succ k =>
      rw [List.take_succ_cons, ecells_cons, ecells_cons, ← ih k, List.take_append, List.take_of_length_le (by simp [Edg.cs]; omega)]
      rw [show (k + 1) * 4 - x.cs.length = k * 4 from by simp [Edg.cs]; omega]
theorem ecells_drop (xs : List Edg) (k : Nat) : (ecells xs).drop (k * 4) = ecells (xs.drop k) := by
  induction xs generalizing k with
  | nil => simp [ecells]
  | cons x xs ih =>
    cases k with
    | zero => simp [ecells]
    | succ k =>
      rw [List.drop_succ_cons, ecells_cons, ← ih k, List.drop_append, List.drop_of_length_le (by simp [Edg.cs]; omega)]
      rw [show (k + 1) * 4 - x.cs.length = k * 4 from by simp [Edg.cs]; omega, List.nil_append]
theorem ecells_at (xs : List Edg) (i j : Nat) (h : i < xs.length) (hj : j < 4) : (ecells xs)[i * 4 + j]? = (xs[i]).cs[j]? := by
  rw [← List.getElem?_drop, ecells_drop, List.drop_eq_getElem_cons h, ecells_cons, List.getElem?_append_left (by simp [Edg.cs]; omega)]
theorem ecells_set (xs : List Edg) (i : Nat) (h : i < xs.length) (e : Edg) :
    ((((ecells xs).set (i * 4) (.int .i64 e.id)).set (i * 4 + 1) (.int .i64 e.fr)).set (i * 4 + 2) (.int .i64 e.to)).set (i * 4 + 3) (.int .i64 e.lb) = ecells (xs.set i e) := by
  have hx : xs = xs.take i ++ xs[i] :: xs.drop (i + 1) := by rw [← List.drop_eq_getElem_cons h, List.take_append_drop]
  have hl : (ecells (xs.take i)).length = i * 4 := by rw [ecells_length, List.length_take, Nat.min_eq_left (Nat.le_of_lt h)]
  have e1 : ecells xs = ecells (xs.take i) ++ ((xs[i]).cs ++ ecells (xs.drop (i + 1))) := by
    rw [← ecells_cons, ← ecells_append, ← hx]
  have e2 : ecells (xs.set i e) = ecells (xs.take i) ++ (e.cs ++ ecells (xs.drop (i + 1))) := by
    rw [← ecells_cons, ← ecells_append, List.set_eq_take_append_cons_drop, if_pos h]
  rw [e1, e2]
  rw [List.set_append_right _ _ (by omega), hl, Nat.sub_self]
  rw [List.set_append_right _ _ (by omega), hl, show i * 4 + 1 - i * 4 = 1 from by omega]
  rw [List.set_append_right _ _ (by omega), hl, show i * 4 + 2 - i * 4 = 2 from by omega]
  rw [List.set_append_right _ _ (by omega), hl, show i * 4 + 3 - i * 4 = 3 from by omega]
  rfl
theorem ecells_one (e : Edg) : ecells [e] = e.cs := by simp [ecells]
theorem ecells_snoc (xs : List Edg) (e : Edg) : ecells (xs ++ [e]) = ecells xs ++ e.cs := by rw [ecells_append, ecells_one]
theorem ecells_oneCell (xs : List Edg) : ∀ u ∈ ecells xs, u.oneCell' = true := by
  intro u hu
  simp [ecells, Edg.cs] at hu
  obtain ⟨e, _, h⟩ := hu
  rcases h with h | h | h | h <;> subst h <;> rfl
theorem ecells_zero (n : Nat) : ecells (List.replicate n zeroE) = List.replicate (n * 4) (.int .i64 0) := by
  induction n with
  | zero => rfl
  | succ n ih => rw [List.replicate_succ, ecells_cons, ih, show (n + 1) * 4 = 4 + n * 4 from by omega, ← List.replicate_append_replicate]; rfl

/-- v is a slice of edges that reads as xs. -/
def EdgesAt (w : World) (v : Value) (xs : List Edg) : Prop :=
  (∀ x ∈ xs, x.In) ∧ ((xs = [] ∧ ∃ ao cap, v = .slice ao 0 cap) ∨ ∃ b off cap, v = .slice (some ⟨b, off, none⟩) xs.length cap ∧ b < w.heap.size ∧
    ∀ i (h : i < xs.length), w.cell? ⟨b, off + i * 4, none⟩ = some (.int .i64 xs[i].id) ∧ w.cell? ⟨b, off + i * 4 + 1, none⟩ = some (.int .i64 xs[i].fr) ∧
      w.cell? ⟨b, off + i * 4 + 2, none⟩ = some (.int .i64 xs[i].to) ∧ w.cell? ⟨b, off + i * 4 + 3, none⟩ = some (.int .i64 xs[i].lb))
theorem EdgesAt.since {w w' : World} {v : Value} {xs : List Edg} (h : EdgesAt w v xs) (k : Since w w') : EdgesAt w' v xs := by
  obtain ⟨h1, h2 | ⟨b, off, cap, h2, h3, h4⟩⟩ := h
  · exact ⟨h1, .inl h2⟩
  · refine ⟨h1, .inr ⟨b, off, cap, h2, Nat.lt_of_lt_of_le h3 k.size, fun i hi => ?_⟩⟩
    have hc : ∀ o, w'.cell? ⟨b, o, none⟩ = w.cell? ⟨b, o, none⟩ := fun o => Below.cell k (p := ⟨b, o, none⟩) h3
    rw [hc, hc, hc, hc]; exact h4 i hi
theorem EdgesAt.grown {w w' : World} {v : Value} {xs : List Edg} {row : Option Nat} (h : EdgesAt w v xs) (k : w.grownBy w' row) (hr : v.ownBlock = none ∨ v.ownBlock ≠ row) : EdgesAt w' v xs := by
  obtain ⟨h1, h2 | ⟨b, off, cap, h2, h3, h4⟩⟩ := h
  · exact ⟨h1, .inl h2⟩
  · refine ⟨h1, .inr ⟨b, off, cap, h2, Nat.lt_of_lt_of_le h3 k.size, fun i hi => ?_⟩⟩
    have hb : w'.heap[b]? = w.heap[b]? := k.block b h3 (fun e => by subst h2; rcases hr with hr | hr <;> simp [Value.ownBlock] at hr; exact hr e)
    have hc : ∀ o, w'.cell? ⟨b, o, none⟩ = w.cell? ⟨b, o, none⟩ := fun o => World.cell?_of_block (w := w) (w' := w') (a := ⟨b, o, none⟩) hb
    rw [hc, hc, hc, hc]; exact h4 i hi
theorem EdgesAt.len {w : World} {v : Value} {xs : List Edg} (h : EdgesAt w v xs) : ∃ ao cap, v = .slice ao xs.length cap := by
  obtain ⟨_, ⟨rfl, ao, cap, rfl⟩ | ⟨b, off, cap, rfl, _⟩⟩ := h
  · exact ⟨_, _, rfl⟩
  · exact ⟨_, _, rfl⟩
theorem EdgesAt.nil (w : World) (ao : Option Addr) (cap : Nat) : EdgesAt w (.slice ao 0 cap) [] := ⟨fun x hx => by simp at hx, .inl ⟨rfl, _, _, rfl⟩⟩
theorem info_intE : (Try.prog.info? 3).map (fun i => (i.zero, i.size, i.bytes)) = some (some (.int .i64 0), 1, 8) := by kernel_rfl
theorem made_edges (n : Nat) : (madeCells (ev zeroE).cells (n * 4)).toList = ecells (List.replicate n zeroE) := by
  rw [ecells_zero]
  apply List.ext_getElem
  · simp [madeCells]
  · intro j h1 h2
    have hj : j % 4 = 0 ∨ j % 4 = 1 ∨ j % 4 = 2 ∨ j % 4 = 3 := by omega
    have e : (ev zeroE).cells = #[.int .i64 0, .int .i64 0, .int .i64 0, .int .i64 0] := rfl
    simp only [madeCells, e, Array.toList_map, List.getElem_map, List.getElem_replicate]
    rcases hj with h | h | h | h <;> simp [h]
end Go.Proofs.Ytmaagihfjldgeaa

/- Graphs as plain data: what chapter 3's functions answer. -/
namespace Go.Proofs.Ytmaagihfjldgeaa
set_option maxRecDepth 100000
open Go.ChangeShapes Go.WideShapes Go.ChangeAt Go.RowKit
set_option linter.unusedVariables false

structure Grf where
  vs : List Int
  es : List Edg
theorem Grf.eq_iff (a b : Grf) : a = b ↔ (a.vs = b.vs ∧ a.es = b.es) :=
  ⟨fun h => by subst h; exact ⟨rfl, rfl⟩, fun h => by cases a; cases b; simp_all⟩
instance : DecidableEq Grf := fun a b => decidable_of_iff _ (Grf.eq_iff a b).symm

/-- An edge of a graph of n nodes. -/
def EdOk (n : Nat) (e : Edg) : Prop := (1 ≤ e.id ∧ e.id ≤ 99) ∧ (0 ≤ e.fr ∧ e.fr < n) ∧ (0 ≤ e.to ∧ e.to < n) ∧ (0 ≤ e.lb ∧ e.lb ≤ 2)
instance (n : Nat) (e : Edg) : Decidable (EdOk n e) := by unfold EdOk; exact inferInstance
def edB (n : Nat) (e : Edg) : Bool := decide (EdOk n e)
def idLt (a b : Edg) : Prop := a.id < b.id
instance : DecidableRel idLt := fun a b => by unfold idLt; exact inferInstance
def Valid (g : Grf) : Prop := (1 ≤ g.vs.length ∧ g.vs.length ≤ 5 ∧ g.es.length ≤ 12) ∧ (∀ x ∈ g.vs, 0 ≤ x ∧ x ≤ 2) ∧ (∀ e ∈ g.es, EdOk g.vs.length e) ∧ g.es.Pairwise idLt
instance (g : Grf) : Decidable (Valid g) := by unfold Valid; exact inferInstance
def validB (g : Grf) : Bool := decide (Valid g)
theorem validB_true {g : Grf} (h : Valid g) : validB g = true := decide_eq_true h
theorem validB_false {g : Grf} (h : ¬ Valid g) : validB g = false := decide_eq_false h
theorem validB_iff (g : Grf) : validB g = true ↔ Valid g := decide_eq_true_iff
theorem edB_true {n : Nat} {e : Edg} (h : EdOk n e) : edB n e = true := decide_eq_true h
theorem edB_false {n : Nat} {e : Edg} (h : ¬ EdOk n e) : edB n e = false := decide_eq_false h
theorem edB_iff (n : Nat) (e : Edg) : edB n e = true ↔ EdOk n e := decide_eq_true_iff
theorem edB_split (n : Nat) (e : Edg) (m : Int) (hm : m = (n : Int) - 1) : edB n e = (inB e.id 1 99 && inB e.fr 0 m && inB e.to 0 m && inB e.lb 0 2) := by
  subst hm
  rw [Bool.eq_iff_iff, edB_iff]
  unfold EdOk inB
  simp only [Bool.and_eq_true, decide_eq_true_eq]
  omega
theorem edB_ids {n : Nat} {e : Edg} (h : edB n e = true) : 1 ≤ e.id ∧ e.id ≤ 99 := ((edB_iff n e).1 h).1

theorem asc_step {es : List Edg} {k : Nat} (hk : k < es.length) (h : (es.take k).Pairwise idLt) (hlast : ∀ (h0 : 0 < k), (es[k - 1]'(by omega)).id < (es[k]).id) : (es.take (k + 1)).Pairwise idLt := by
  rw [List.take_succ_eq_append_getElem hk, List.pairwise_append]
  refine ⟨h, List.pairwise_singleton _ _, ?_⟩
  intro a ha b hb
  simp at hb; subst hb
  obtain ⟨i, hi, rfl⟩ := List.getElem_of_mem ha
  have hik : i < k := by simp at hi; omega
  rw [List.getElem_take]
  by_cases hl : i = k - 1
  · subst hl; exact hlast (by omega)
  · have h2 := List.pairwise_iff_getElem.1 h i (k - 1) (by simp; omega) (by simp; omega) (by omega)
    rw [List.getElem_take, List.getElem_take] at h2
    have h3 := hlast (by omega)
    unfold idLt at h2 ⊢; omega
theorem asc_not {es : List Edg} {k : Nat} (hk : k < es.length) (h0 : 0 < k) (h : (es[k]).id ≤ (es[k - 1]'(by omega)).id) : ¬ es.Pairwise idLt := by
  intro hp
  have := List.pairwise_iff_getElem.1 hp (k - 1) k (by omega) hk (by omega)
  unfold idLt at this; omega
theorem all_take_step {α : Type} {P : α → Prop} {xs : List α} {k : Nat} (hk : k < xs.length) (h : ∀ x ∈ xs.take k, P x) (hx : P xs[k]) : ∀ x ∈ xs.take (k + 1), P x := by
  intro x hm
  rw [List.take_succ_eq_append_getElem hk] at hm
  rcases List.mem_append.1 hm with hm | hm
  · exact h x hm
  · simp at hm; subst hm; exact hx

/-- The place of the first edge with this number, or -1. -/
def findE (es : List Edg) (id : Int) : Option Nat := es.findIdx? fun e => decide (e.id = id)
def idxE (es : List Edg) (id : Int) : Int := match findE es id with | some k => (k : Int) | none => -1
theorem idxE_at {es : List Edg} {id : Int} {k : Nat} (hk : k < es.length) (h : (es[k]).id = id) (hlt : ∀ j (hj : j < k), (es[j]'(by omega)).id ≠ id) : idxE es id = k := by
  unfold idxE findE
  rw [List.findIdx?_eq_some_iff_getElem.2 ⟨hk, by simpa using h, fun j hj => by simpa using hlt j hj⟩]
theorem idxE_none {es : List Edg} {id : Int} (h : ∀ j (hj : j < es.length), (es[j]).id ≠ id) : idxE es id = -1 := by
  unfold idxE findE
  rw [List.findIdx?_eq_none_iff.2 (fun x hx => by obtain ⟨j, hj, rfl⟩ := List.getElem_of_mem hx; simpa using h j hj)]
theorem idxE_cases (es : List Edg) (id : Int) : (∃ k : Nat, ∃ hk : k < es.length, idxE es id = k ∧ (es[k]).id = id ∧ ∀ j (hj : j < k), (es[j]'(by omega)).id ≠ id) ∨ (idxE es id = -1 ∧ ∀ j (hj : j < es.length), (es[j]).id ≠ id) := by
  cases e : findE es id with
  | none =>
    refine .inr ⟨by unfold idxE; rw [e], fun j hj => ?_⟩
    have := List.findIdx?_eq_none_iff.1 e _ (List.getElem_mem hj)
    simpa using this
  | some k =>
    obtain ⟨hk, h1, h2⟩ := List.findIdx?_eq_some_iff_getElem.1 e
    exact .inl ⟨k, hk, by unfold idxE; rw [e], by simpa using h1, fun j hj => by simpa using h2 j hj⟩

/-- The place at which an edge with this number is inserted. -/
def lbE (es : List Edg) (id : Int) : Nat := es.findIdx fun e => decide (id ≤ e.id)
theorem lbE_le (es : List Edg) (id : Int) : lbE es id ≤ es.length := List.findIdx_le_length
theorem lbE_below {es : List Edg} {id : Int} {j : Nat} (h : j < lbE es id) : (es[j]'(Nat.lt_of_lt_of_le h (lbE_le es id))).id < id := by
  have := List.not_of_lt_findIdx h
  simpa using this
theorem lbE_at {es : List Edg} {id : Int} (h : lbE es id < es.length) : id ≤ (es[lbE es id]).id := by
  have := List.findIdx_getElem (w := h)
  exact of_decide_eq_true this
theorem lbE_is {es : List Edg} {id : Int} {k : Nat} (hk : k ≤ es.length) (h1 : ∀ j (hj : j < k), (es[j]'(by omega)).id < id) (h2 : ∀ (h : k < es.length), id ≤ (es[k]).id) : lbE es id = k := by
  rcases Nat.lt_trichotomy (lbE es id) k with h | h | h
  · have a := lbE_at (es := es) (id := id) (by omega)
    have b := h1 _ h
    omega
  · exact h
  · have a := lbE_below h
    have b := h2 (by have := lbE_le es id; omega)
    omega
/-- In ascending order, a number is used just where it would be inserted. -/
theorem lbE_idx {es : List Edg} {id : Int} (hs : es.Pairwise idLt) : (∃ h : lbE es id < es.length, (es[lbE es id]).id = id ∧ idxE es id = lbE es id) ∨ ((∀ h : lbE es id < es.length, (es[lbE es id]).id ≠ id) ∧ idxE es id = -1) := by
  rcases idxE_cases es id with ⟨k, hk, h1, h2, h3⟩ | ⟨h1, h2⟩
  · have e : lbE es id = k := by
      refine lbE_is (by omega) (fun j hj => ?_) (fun _ => by omega)
      have := List.pairwise_iff_getElem.1 hs j k (by omega) hk hj
      unfold idLt at this; omega
    refine .inl ⟨by omega, ?_, by omega⟩
    simp only [e]; exact h2
  · exact .inr ⟨fun h => h2 _ h, h1⟩
theorem asc_le {es : List Edg} (hs : es.Pairwise idLt) {i j : Nat} (hij : i ≤ j) (hj : j < es.length) : (es[i]'(by omega)).id ≤ (es[j]).id := by
  by_cases e : i = j
  · subst e; exact Int.le_refl _
  · have := List.pairwise_iff_getElem.1 hs i j (by omega) hj (by omega)
    unfold idLt at this; omega
def insL (es : List Edg) (e : Edg) : List Edg := es.take (lbE es e.id) ++ e :: es.drop (lbE es e.id)
def canIns (g : Grf) (e : Edg) : Bool := validB g && edB g.vs.length e && decide (idxE g.es e.id < 0) && decide (g.es.length ≠ 12)
def insG (g : Grf) (e : Edg) : Grf := if canIns g e = true then ⟨g.vs, insL g.es e⟩ else g
def canDel (g : Grf) (id : Int) : Bool := validB g && decide (0 ≤ idxE g.es id)
def delL (es : List Edg) (k : Nat) : List Edg := es.take k ++ es.drop (k + 1)
def delG (g : Grf) (id : Int) : Grf := if canDel g id = true then ⟨g.vs, delL g.es (idxE g.es id).toNat⟩ else g
def canSet (g : Grf) (node v : Int) : Bool := validB g && inB node 0 ((g.vs.length : Int) - 1) && inB v 0 2
def setG (g : Grf) (node v : Int) : Grf := if canSet g node v = true then ⟨g.vs.set node.toNat v, g.es⟩ else g
def revE (e : Edg) : Edg := ⟨e.id, e.to, e.fr, e.lb⟩
def revG (g : Grf) : Grf := ⟨g.vs, g.es.map revE⟩

/-- v is a graph that reads as g. -/
def GrfAt (w : World) (v : Value) (g : Grf) : Prop := ∃ a b, v = .agg #[a, b] ∧ IntsAt w a g.vs ∧ EdgesAt w b g.es
theorem GrfAt.since {w w' : World} {v : Value} {g : Grf} (h : GrfAt w v g) (k : Since w w') : GrfAt w' v g := by
  obtain ⟨a, b, rfl, h1, h2⟩ := h; exact ⟨a, b, rfl, h1.since k, h2.since k⟩
end Go.Proofs.Ytmaagihfjldgeaa
