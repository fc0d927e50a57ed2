/- The constructors of chapter 8, the program's and the model's. -/
import Derived.Test.YthnppgcmmabolaaDoorXd
import Derived.Test.YthnppgcmmabolaaDoorTree
namespace Go.Proofs.YthnppgcmmabolaaDoor
set_option maxRecDepth 100000
open Go.ChangeShapes Go.WideShapes Go.ChangeAt Go.RowKit
set_option linter.unusedVariables false
set_option linter.unusedSimpArgs false

theorem OwnK.farT {base X : Nat} {w : World} {v : Value} {xs : List Tok} {t : TypeId} {cs : Array Value} (h : OwnK base w v xs) (hb : Blk w X t cs) (ht : t ≠ 44) (i : Nat) (u : Value) : OwnK base (w.setCell ⟨X, i, none⟩ u) v xs := by
  refine ⟨h.1, h.2.1, ?_⟩
  rcases h.2.2 with h3 | ⟨g, cap, cur, a, b, c, d⟩
  · exact .inl h3
  · refine .inr ⟨g, cap, cur, a, b, (Below.heap_setCell w ⟨X, i, none⟩ u g (fun e => ?_)).trans c, d⟩
    have e : g = X := e
    subst e
    have := hb.symm.trans c
    injection this with this
    injection this with _ this
    exact ht this
theorem OwnK.lenN {base : Nat} {w : World} {v : Value} {xs : List Tok} (h : OwnK base w v xs) : ∃ ao N c, Hid (N = xs.length) ∧ v = .slice ao N c := by
  obtain ⟨ao, c, e⟩ := h.len; exact ⟨ao, _, c, rfl, e⟩
theorem xout_boxT {w w2 : World} {b : Value} {xs : List Tok} {X i : Nat} {t : TypeId} {cs : Array Value} (h : OwnK w.heap.size w2 b xs) (hs : Since w w2) (hb : Blk w2 X t cs) (ht : t ≠ 44) (hX : w.heap.size ≤ X) (u : Value) : XOut w xs (.returned (.agg #[b])) (w2.setCell ⟨X, i, none⟩ u) :=
  xout_mk (h.farT hb ht i u) (hs.setCell hX u)
theorem parts2 {w : World} {a b : Value} {xs ys : List Tok} (h1 : ToksAt w a xs) (h2 : ToksAt w b ys) : PartsK w [a, b] [xs, ys] := ⟨rfl, fun k hk => by
  match k, hk with
  | 0, _ => exact ⟨a, rfl, h1⟩
  | 1, _ => exact ⟨b, rfl, h2⟩⟩
theorem parts3 {w : World} {a b c : Value} {xs ys zs : List Tok} (h1 : ToksAt w a xs) (h2 : ToksAt w b ys) (h3 : ToksAt w c zs) : PartsK w [a, b, c] [xs, ys, zs] := ⟨rfl, fun k hk => by
  match k, hk with
  | 0, _ => exact ⟨a, rfl, h1⟩
  | 1, _ => exact ⟨b, rfl, h2⟩
  | 2, _ => exact ⟨c, rfl, h3⟩⟩
theorem catK2 (xs ys : List Tok) : catK [xs, ys] 2 = xs ++ ys := by simp [catK]
theorem catK3 (xs ys zs : List Tok) : catK [xs, ys, zs] 3 = xs ++ ys ++ zs := by simp [catK]
/-- What the constructors answer. -/
def catX (xs ys : List Tok) : List Tok := bif alone xs 1 then [leafK 1] else bif alone ys 1 then [leafK 1] else bif alone xs 2 then ys else bif alone ys 2 then xs else xs ++ ys ++ [leafK 4]
def uniX (xs ys : List Tok) : List Tok := bif alone xs 1 then ys else bif decide (xs = ys) then ys else bif alone ys 1 then xs else xs ++ ys ++ [leafK 5]
def lastB (xs : List Tok) (k : Int) : Bool := match xs.getLast? with
  | some t => t.kd == k
  | none => false
def starX (xs : List Tok) : List Tok := bif alone xs 1 then [leafK 2] else bif alone xs 2 then [leafK 2] else bif lastB xs 6 then xs else xs ++ [leafK 6]
def repX (xs : List Tok) (lo hi : Int) : List Tok := bif lo == 0 && hi == 0 then [leafK 2] else bif lo == 1 && hi == 1 then xs else xs ++ [⟨7, 0, lo, hi⟩]
theorem catX_len (xs ys : List Tok) : (catX xs ys).length ≤ xs.length + ys.length + 1 := by
  unfold catX; cases alone xs 1 <;> cases alone ys 1 <;> cases alone xs 2 <;> cases alone ys 2 <;> simp <;> omega
theorem uniX_len (xs ys : List Tok) : (uniX xs ys).length ≤ xs.length + ys.length + 1 := by
  unfold uniX; cases alone xs 1 <;> cases decide (xs = ys) <;> cases alone ys 1 <;> simp <;> omega
theorem starX_len (xs : List Tok) : (starX xs).length ≤ xs.length + 1 := by
  unfold starX; cases alone xs 1 <;> cases alone xs 2 <;> cases lastB xs 6 <;> simp
theorem repX_len (xs : List Tok) (lo hi : Int) : (repX xs lo hi).length ≤ xs.length + 1 := by
  unfold repX; cases (lo == 0 && hi == 0) <;> cases (lo == 1 && hi == 1) <;> simp
/-- append of tokens, the slices opened; what it keeps. -/
theorem wpList_app {w : World} {ops : Array Oper} {rest : List Oper} {o : Oper} {a : Act} {Q : Exit → Act → World → Prop} (hgd : o.guard = none) (s x : Operand)
    (ho : o.op = .call { callee := .builtin .append, args := #[s, x], argTypes := #[27, 27] }) (base : Nat) (ao0 : Option Addr) (n0 c0 : Nat) (xs : List Tok) (hs : a.eval s = .slice ao0 n0 c0) (hown : OwnK base w (.slice ao0 n0 c0) xs) (ao : Option Addr) (m c : Nat) (hx : a.eval x = .slice ao m c)
    (ys : List Tok) (hy : ToksAt w (.slice ao m c) ys) (hlen : xs.length + ys.length ≤ 4194304) (hbase : base ≤ w.heap.size)
    (h : ∀ ao' N' c' w', Hid (N' = xs.length + ys.length) → OwnK base w' (.slice ao' N' c') (xs ++ ys) → KeepK base w w' → wpList Tryd.prog ops Q rest (a.put o.dst (.slice ao' N' c')) w') : wpList Tryd.prog ops Q (o :: rest) a w := by
  refine wpList_append_toks hgd s x ho base _ xs hs hown ao m c hx ys hy hlen hbase fun v' w' h2 h3 h4 => ?_
  obtain ⟨ao', c', rfl⟩ := h2.len
  refine h ao' _ c' w' (by unfold Hid; simp) h2 (KeepK.of_grown h3 hown)

end Go.Proofs.YthnppgcmmabolaaDoor
