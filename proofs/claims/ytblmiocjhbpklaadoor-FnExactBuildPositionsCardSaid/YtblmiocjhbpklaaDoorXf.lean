/- The constructors of chapter 8, the program's and the model's. -/
import Derived.Test.YtblmiocjhbpklaaDoorXd
import Derived.Test.YtblmiocjhbpklaaDoorTree
namespace Go.Proofs.YtblmiocjhbpklaaDoor
set_option maxRecDepth 100000
open Go.ChangeShapes Go.WideShapes Go.ChangeAt Go.RowKit
set_option linter.unusedVariables false
set_option linter.unusedSimpArgs false

theorem OwnK.farT {base X : Nat} {w : World} {v : Value} {xs : List Tok} {t : TypeId} {cs : Array Value} (h : OwnK base w v xs) (hb : Blk w X t cs) (ht : t ≠ 90) (i : Nat) (u : Value) : OwnK base (w.setCell ⟨X, i, none⟩ u) v xs := by
  refine ⟨h.1, h.2.1, ?_⟩
  rcases h.2.2 with h3 | ⟨g, cap, cur, a, b, c, d⟩
  · exact .inl h3
  · refine .inr ⟨g, cap, cur, a, b, (Below.heap_setCell w ⟨X, i, none⟩ u g (fun e => ?_)).trans c, d⟩
    have e : g = X := e
    subst e
    have := hb.symm.trans c
    injection this with this
    injection this with _ this
    exact ht this
theorem OwnK.lenN {base : Nat} {w : World} {v : Value} {xs : List Tok} (h : OwnK base w v xs) : ∃ ao N c, Hid (N = xs.length) ∧ v = .slice ao N c := by
  obtain ⟨ao, c, e⟩ := h.len; exact ⟨ao, _, c, rfl, e⟩
theorem xout_boxT {w w2 : World} {b : Value} {xs : List Tok} {X i : Nat} {t : TypeId} {cs : Array Value} (h : OwnK w.heap.size w2 b xs) (hs : Since w w2) (hb : Blk w2 X t cs) (ht : t ≠ 90) (hX : w.heap.size ≤ X) (u : Value) : XOut w xs (.returned (.agg #[b])) (w2.setCell ⟨X, i, none⟩ u) :=
  xout_mk (h.farT hb ht i u) (hs.setCell hX u)
theorem parts2 {w : World} {a b : Value} {xs ys : List Tok} (h1 : ToksAt w a xs) (h2 : ToksAt w b ys) : PartsK w [a, b] [xs, ys] := ⟨rfl, fun k hk => by
  match k, hk with
  | 0, _ => exact ⟨a, rfl, h1⟩
  | 1, _ => exact ⟨b, rfl, h2⟩⟩
theorem parts3 {w : World} {a b c : Value} {xs ys zs : List Tok} (h1 : ToksAt w a xs) (h2 : ToksAt w b ys) (h3 : ToksAt w c zs) : PartsK w [a, b, c] [xs, ys, zs] := ⟨rfl, fun k hk => by
  match k, hk with
  | 0, _ => exact ⟨a, rfl, h1⟩
  | 1, _ => exact ⟨b, rfl, h2⟩
  | 2, _ => exact ⟨c, rfl, h3⟩⟩
theorem catK2 (xs ys : List Tok) : catK [xs, ys] 2 = xs ++ ys := by simp [catK]
theorem catK3 (xs ys zs : List Tok) : catK [xs, ys, zs] 3 = xs ++ ys ++ zs := by simp [catK]
set_option maxHeartbeats 1000000 in
set_option maxRecDepth 100000 in
theorem concat2 (sb : Nat) (a b : Value) (xs ys zs : List Tok) (w : World) (hb : Blk w sb 24 #[a, b]) (h1 : ToksAt w a xs) (h2 : ToksAt w b ys) (hz : zs = xs ++ ys) (hl : zs.length ≤ 4194304) :
    Calls Tryd.prog 118 #[.slice (some ⟨sb, 0, none⟩) 2 2] w (TokOut w zs) := by
  subst hz
  rw [← catK2] at hl ⊢
  exact concatK_any sb 2 [a, b] [xs, ys] w hb (parts2 h1 h2) rfl (by decide) hl
theorem concat3 (sb : Nat) (a b c : Value) (xs ys us zs : List Tok) (w : World) (hb : Blk w sb 24 #[a, b, c]) (h1 : ToksAt w a xs) (h2 : ToksAt w b ys) (h3 : ToksAt w c us) (hz : zs = xs ++ ys ++ us) (hl : zs.length ≤ 4194304) :
    Calls Tryd.prog 118 #[.slice (some ⟨sb, 0, none⟩) 3 3] w (TokOut w zs) := by
  subst hz
  rw [← catK3] at hl ⊢
  exact concatK_any sb 3 [a, b, c] [xs, ys, us] w hb (parts3 h1 h2 h3) rfl (by decide) hl
/-- What the constructors answer. -/
def catX (xs ys : List Tok) : List Tok := bif alone xs 1 then [leafK 1] else bif alone ys 1 then [leafK 1] else bif alone xs 2 then ys else bif alone ys 2 then xs else xs ++ ys ++ [leafK 4]
def uniX (xs ys : List Tok) : List Tok := bif alone xs 1 then ys else bif decide (xs = ys) then ys else bif alone ys 1 then xs else xs ++ ys ++ [leafK 5]
def lastB (xs : List Tok) (k : Int) : Bool := match xs.getLast? with
  | some t => t.kd == k
  | none => false
def starX (xs : List Tok) : List Tok := bif alone xs 1 then [leafK 2] else bif alone xs 2 then [leafK 2] else bif lastB xs 6 then xs else xs ++ [leafK 6]
def repX (xs : List Tok) (lo hi : Int) : List Tok := bif lo == 0 && hi == 0 then [leafK 2] else bif lo == 1 && hi == 1 then xs else xs ++ [⟨7, 0, lo, hi⟩]
theorem catX_len (xs ys : List Tok) : (catX xs ys).length ≤ xs.length + ys.length + 1 := by
  unfold catX; cases alone xs 1 <;> cases alone ys 1 <;> cases alone xs 2 <;> cases alone ys 2 <;> simp <;> omega
theorem uniX_len (xs ys : List Tok) : (uniX xs ys).length ≤ xs.length + ys.length + 1 := by
  unfold uniX; cases alone xs 1 <;> cases decide (xs = ys) <;> cases alone ys 1 <;> simp <;> omega
theorem starX_len (xs : List Tok) : (starX xs).length ≤ xs.length + 1 := by
  unfold starX; cases alone xs 1 <;> cases alone xs 2 <;> cases lastB xs 6 <;> simp
theorem repX_len (xs : List Tok) (lo hi : Int) : (repX xs lo hi).length ≤ xs.length + 1 := by
  unfold repX; cases (lo == 0 && hi == 0) <;> cases (lo == 1 && hi == 1) <;> simp
/-- append of tokens, the slices opened; what it keeps. -/
theorem wpList_app {w : World} {ops : Array Oper} {rest : List Oper} {o : Oper} {a : Act} {Q : Exit → Act → World → Prop} (hgd : o.guard = none) (s x : Operand)
    (ho : o.op = .call { callee := .builtin .append, args := #[s, x], argTypes := #[24, 24] }) (base : Nat) (ao0 : Option Addr) (n0 c0 : Nat) (xs : List Tok) (hs : a.eval s = .slice ao0 n0 c0) (hown : OwnK base w (.slice ao0 n0 c0) xs) (ao : Option Addr) (m c : Nat) (hx : a.eval x = .slice ao m c)
    (ys : List Tok) (hy : ToksAt w (.slice ao m c) ys) (hlen : xs.length + ys.length ≤ 4194304) (hbase : base ≤ w.heap.size)
    (h : ∀ ao' N' c' w', Hid (N' = xs.length + ys.length) → OwnK base w' (.slice ao' N' c') (xs ++ ys) → KeepK base w w' → wpList Tryd.prog ops Q rest (a.put o.dst (.slice ao' N' c')) w') : wpList Tryd.prog ops Q (o :: rest) a w := by
  refine wpList_append_toks hgd s x ho base _ xs hs hown ao m c hx ys hy hlen hbase fun v' w' h2 h3 h4 => ?_
  obtain ⟨ao', c', rfl⟩ := h2.len
  refine h ao' _ c' w' (by unfold Hid; simp) h2 (KeepK.of_grown h3 hown)

set_option maxHeartbeats 1000000 in
set_option maxRecDepth 100000 in
theorem l8Join_any (va vb : Value) (xs ys : List Tok) (t : Tok) (w : World) (ha : ExAt w va xs) (hb : ExAt w vb ys) (ht : t.In) (hl1 : xs.length ≤ 1048577) (hl2 : ys.length ≤ 1048577) :
    Calls Tryd.prog 119 #[va, vb, kv t] w (XOut w (xs ++ ys ++ [t])) := by
  obtain ⟨a, rfl, ha⟩ := ha
  obtain ⟨b, rfl, hb⟩ := hb
  have HA := Lib.hid ha
  have HB := Lib.hid hb
  obtain ⟨ao, ac, rfl⟩ := ha.len
  obtain ⟨bo, bc, rfl⟩ := hb.len
  clear ha hb
  obtain ⟨n, hn⟩ : ∃ n, n = xs.length := ⟨_, rfl⟩
  obtain ⟨m, hm⟩ : ∃ m, m = ys.length := ⟨_, rfl⟩
  rw [← hn] at HA hl1 ⊢
  rw [← hm] at HB hl2 ⊢
  have HN := Lib.hid hn
  have HM := Lib.hid hm
  clear hn hm
  unfold kv
  obtain ⟨y, hy⟩ : ∃ y, y = (((w.alloc (.cells #[.slice ao n ac] 26)).alloc (.cells #[.slice bo m bc] 26)).alloc (.cells #[.int .i64 t.kd, .int .i64 t.lr, .int .i64 t.lo, .int .i64 t.hi] 90)).alloc (.cells #[.slice none 0 0] 26) := ⟨_, rfl⟩
  have hsy : Since w y := by rw [hy]; exact ((((Since.refl w).alloc _).alloc _).alloc _).alloc _
  have BB : Hid (Blk y (w.heap.size + 1) 26 #[.slice bo m bc]) := by rw [hy]; exact ((Blk.new (by simp) _ _).alloc _).alloc _
  have BT : Hid (Blk y (w.heap.size + 1 + 1) 90 #[.int .i64 t.kd, .int .i64 t.lr, .int .i64 t.lo, .int .i64 t.hi]) := by rw [hy]; exact (Blk.new (by simp) _ _).alloc _
  have BR : Hid (Blk y (w.heap.size + 1 + 1 + 1) 26 #[.slice none 0 0]) := by rw [hy]; exact Blk.new (by simp) _ _
  have HY := Lib.hid hy
  clear hy
  go_enter Tryd.func119, Tryd.ntmps119
  go_wp2_with fail
  rw [← HY.out]
  have hq := Since.refl y
  refine (l8Copy_any _ xs _ (HA.out.since (hsy.trans hq)) (by have := HN.out; omega)).mono ?_
  rintro e w1 ⟨v1, rfl, ⟨c, rfl, ho, _⟩, hs1⟩
  obtain ⟨co, cc, rfl⟩ := ho.len
  have hs1y := hq.trans hs1
  have HO1 := Lib.hid (ho.mono hq.size)
  clear ho
  have hX : y.heap.size ≤ w1.heap.size := hs1y.size
  obtain ⟨N1, hN1⟩ : ∃ N, N = (xs).length := ⟨_, rfl⟩
  rw [← hN1] at HO1 ⊢
  have HN1 := Lib.hid hN1
  clear hN1
  have hs2 := hs1y.alloc (.cells #[.slice co N1 cc] 26)
  have BX2 := Lib.hid (Blk.new (w := w1) rfl 26 #[.slice co N1 cc])
  have HO2 := Lib.hid (HO1.out.since ((Since.refl w1).alloc (.cells #[.slice co N1 cc] 26)))
  go_upto_region 2 with fail
  generalize w1.alloc (.cells #[.slice co N1 cc] 26) = w2 at hs2 BX2 HO2 ⊢
  clear HO1
  obtain ⟨p0, q0⟩ := BX2.out.one
  obtain ⟨e0, e1⟩ := (BB.out.since hs2).one
  have hal2 : Since w2 w2 := Since.refl _
  go_upto_region 3 with (at_builtin; go_must (refine wpList_app rfl (.tmp 12) (.tmp 14) rfl y.heap.size co N1 cc xs rfl (HO2.out.since hal2) bo m bc rfl ys (HB.out.since (hsy.trans (hs2.trans hal2))) (by have := HN.out; have := HM.out; omega) (hs2.trans hal2).size ?_); intro do3 N3 dc3 v3 hN3 ho3 hk3; have BY3 := Lib.hid ((BX2.out.since hal2).keep hk3 (by decide)); obtain ⟨t0, u0⟩ := BY3.out.one)
  have HP3 := Lib.hid ho3
  have ht3 : Since y v3 := (hs2.trans hal2).keepK hk3
  clear ho3 hk3 t0 u0 p0 q0 e0 e1
  have hs3 := ht3.setCell (a := ⟨w1.heap.size, 0, none⟩) hX (.slice do3 N3 dc3)
  have BX3 := Lib.hid (BY3.out.set 0 (.slice do3 N3 dc3))
  have HO3 := Lib.hid (HP3.out.farT BY3.out (by decide) 0 (.slice do3 N3 dc3))
  generalize v3.setCell ⟨w1.heap.size, 0, none⟩ (.slice do3 N3 dc3) = w3 at hs3 BX3 HO3 ⊢
  clear BY3 HP3 ht3
  obtain ⟨p0, q0⟩ := BX3.out.one
  obtain ⟨e0, e1, e2, e3, _⟩ := (BT.out.since hs3).four
  have hal3 : Since w3 (w3.alloc (.cells #[.int .i64 t.kd, .int .i64 t.lr, .int .i64 t.lo, .int .i64 t.hi] 90)) := (Since.refl _).alloc _
  go_upto_region 4 with (at_builtin; go_must (refine wpList_app rfl (.tmp 18) (.tmp 20) rfl y.heap.size do3 N3 dc3 (xs ++ ys) rfl (HO3.out.since hal3) _ _ _ rfl [t] (tok_lit w3 t ht) (by have := HN.out; have := HM.out; simp; omega) (hs3.trans hal3).size ?_); intro do4 N4 dc4 v4 hN4 ho4 hk4; have BY4 := Lib.hid ((BX3.out.since hal3).keep hk4 (by decide)); obtain ⟨t0, u0⟩ := BY4.out.one)
  have HP4 := Lib.hid ho4
  have ht4 : Since y v4 := (hs3.trans hal3).keepK hk4
  clear ho4 hk4 t0 u0 p0 q0 e0 e1 e2 e3
  have hs4 := ht4.setCell (a := ⟨w1.heap.size, 0, none⟩) hX (.slice do4 N4 dc4)
  have BX4 := Lib.hid (BY4.out.set 0 (.slice do4 N4 dc4))
  have HO4 := Lib.hid (HP4.out.farT BY4.out (by decide) 0 (.slice do4 N4 dc4))
  generalize v4.setCell ⟨w1.heap.size, 0, none⟩ (.slice do4 N4 dc4) = w4 at hs4 BX4 HO4 ⊢
  clear BY4 HP4 ht4
  obtain ⟨p0, q0⟩ := BX4.out.one
  obtain ⟨r0, s0⟩ := (BR.out.since hs4).one
  go_wp2
  refine bodyPost_ret (v := .agg #[.slice do4 N4 dc4]) (by simp [results, Tryd.results119, go_sem, *]) rfl ?_
  have HR : Hid (OwnK w.heap.size w4 (.slice do4 N4 dc4) (xs ++ ys ++ [t])) := by have := HO4.out.mono hsy.size; first | exact this | simpa using this
  exact xout_boxT HR.out (hsy.trans hs4) (BR.out.since hs4) (by decide) (by omega) _
end Go.Proofs.YtblmiocjhbpklaaDoor
