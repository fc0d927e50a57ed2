/- The constructors of chapter 8, the program's and the model's. -/
import Derived.Test.YtiojgahjfndmdaaDoorXd
import Derived.Test.YtiojgahjfndmdaaDoorTree
namespace Go.Proofs.YtiojgahjfndmdaaDoor
set_option maxRecDepth 100000
open Go.ChangeShapes Go.WideShapes Go.ChangeAt Go.RowKit
set_option linter.unusedVariables false
set_option linter.unusedSimpArgs false

theorem OwnK.farT {base X : Nat} {w : World} {v : Value} {xs : List Tok} {t : TypeId} {cs : Array Value} (h : OwnK base w v xs) (hb : Blk w X t cs) (ht : t ≠ 65) (i : Nat) (u : Value) : OwnK base (w.setCell ⟨X, i, none⟩ u) v xs := by
  refine ⟨h.1, h.2.1, ?_⟩
  rcases h.2.2 with h3 | ⟨g, cap, cur, a, b, c, d⟩
  · exact .inl h3
  · refine .inr ⟨g, cap, cur, a, b, (Below.heap_setCell w ⟨X, i, none⟩ u g (fun e => ?_)).trans c, d⟩
    have e : g = X := e
    subst e
    have := hb.symm.trans c
    injection this with this
    injection this with _ this
    exact ht this
theorem OwnK.lenN {base : Nat} {w : World} {v : Value} {xs : List Tok} (h : OwnK base w v xs) : ∃ ao N c, Hid (N = xs.length) ∧ v = .slice ao N c := by
  obtain ⟨ao, c, e⟩ := h.len; exact ⟨ao, _, c, rfl, e⟩
theorem xout_boxT {w w2 : World} {b : Value} {xs : List Tok} {X i : Nat} {t : TypeId} {cs : Array Value} (h : OwnK w.heap.size w2 b xs) (hs : Since w w2) (hb : Blk w2 X t cs) (ht : t ≠ 65) (hX : w.heap.size ≤ X) (u : Value) : XOut w xs (.returned (.agg #[b])) (w2.setCell ⟨X, i, none⟩ u) :=
  xout_mk (h.farT hb ht i u) (hs.setCell hX u)
theorem parts2 {w : World} {a b : Value} {xs ys : List Tok} (h1 : ToksAt w a xs) (h2 : ToksAt w b ys) : PartsK w [a, b] [xs, ys] := ⟨rfl, fun k hk => by
  match k, hk with
  | 0, _ => exact ⟨a, rfl, h1⟩
  | 1, _ => exact ⟨b, rfl, h2⟩⟩
theorem parts3 {w : World} {a b c : Value} {xs ys zs : List Tok} (h1 : ToksAt w a xs) (h2 : ToksAt w b ys) (h3 : ToksAt w c zs) : PartsK w [a, b, c] [xs, ys, zs] := ⟨rfl, fun k hk => by
  match k, hk with
  | 0, _ => exact ⟨a, rfl, h1⟩
  | 1, _ => exact ⟨b, rfl, h2⟩
  | 2, _ => exact ⟨c, rfl, h3⟩⟩
theorem catK2 (xs ys : List Tok) : catK [xs, ys] 2 = xs ++ ys := by simp [catK]
theorem catK3 (xs ys zs : List Tok) : catK [xs, ys, zs] 3 = xs ++ ys ++ zs := by simp [catK]
set_option maxHeartbeats 1000000 in
set_option maxRecDepth 100000 in
theorem concat2 (sb : Nat) (a b : Value) (xs ys zs : List Tok) (w : World) (hb : Blk w sb 24 #[a, b]) (h1 : ToksAt w a xs) (h2 : ToksAt w b ys) (hz : zs = xs ++ ys) (hl : zs.length ≤ 4194304) :
    Calls Tryd.prog 59 #[.slice (some ⟨sb, 0, none⟩) 2 2] w (TokOut w zs) := by
  subst hz
  rw [← catK2] at hl ⊢
  exact concatK_any sb 2 [a, b] [xs, ys] w hb (parts2 h1 h2) rfl (by decide) hl
theorem concat3 (sb : Nat) (a b c : Value) (xs ys us zs : List Tok) (w : World) (hb : Blk w sb 24 #[a, b, c]) (h1 : ToksAt w a xs) (h2 : ToksAt w b ys) (h3 : ToksAt w c us) (hz : zs = xs ++ ys ++ us) (hl : zs.length ≤ 4194304) :
    Calls Tryd.prog 59 #[.slice (some ⟨sb, 0, none⟩) 3 3] w (TokOut w zs) := by
  subst hz
  rw [← catK3] at hl ⊢
  exact concatK_any sb 3 [a, b, c] [xs, ys, us] w hb (parts3 h1 h2 h3) rfl (by decide) hl
/-- What the constructors answer. -/
def catX (xs ys : List Tok) : List Tok := bif alone xs 1 then [leafK 1] else bif alone ys 1 then [leafK 1] else bif alone xs 2 then ys else bif alone ys 2 then xs else xs ++ ys ++ [leafK 4]
def uniX (xs ys : List Tok) : List Tok := bif alone xs 1 then ys else bif decide (xs = ys) then ys else bif alone ys 1 then xs else xs ++ ys ++ [leafK 5]
def lastB (xs : List Tok) (k : Int) : Bool := match xs.getLast? with
  | some t => t.kd == k
  | none => false
def starX (xs : List Tok) : List Tok := bif alone xs 1 then [leafK 2] else bif alone xs 2 then [leafK 2] else bif lastB xs 6 then xs else xs ++ [leafK 6]
def repX (xs : List Tok) (lo hi : Int) : List Tok := bif lo == 0 && hi == 0 then [leafK 2] else bif lo == 1 && hi == 1 then xs else xs ++ [⟨7, 0, lo, hi⟩]
theorem catX_len (xs ys : List Tok) : (catX xs ys).length ≤ xs.length + ys.length + 1 := by
  unfold catX; cases alone xs 1 <;> cases alone ys 1 <;> cases alone xs 2 <;> cases alone ys 2 <;> simp <;> omega
theorem uniX_len (xs ys : List Tok) : (uniX xs ys).length ≤ xs.length + ys.length + 1 := by
  unfold uniX; cases alone xs 1 <;> cases decide (xs = ys) <;> cases alone ys 1 <;> simp <;> omega
theorem starX_len (xs : List Tok) : (starX xs).length ≤ xs.length + 1 := by
  unfold starX; cases alone xs 1 <;> cases alone xs 2 <;> cases lastB xs 6 <;> simp
theorem repX_len (xs : List Tok) (lo hi : Int) : (repX xs lo hi).length ≤ xs.length + 1 := by
  unfold repX; cases (lo == 0 && hi == 0) <;> cases (lo == 1 && hi == 1) <;> simp
/-- append of tokens, the slices opened; what it keeps. -/
theorem wpList_app {w : World} {ops : Array Oper} {rest : List Oper} {o : Oper} {a : Act} {Q : Exit → Act → World → Prop} (hgd : o.guard = none) (s x : Operand)
    (ho : o.op = .call { callee := .builtin .append, args := #[s, x], argTypes := #[24, 24] }) (base : Nat) (ao0 : Option Addr) (n0 c0 : Nat) (xs : List Tok) (hs : a.eval s = .slice ao0 n0 c0) (hown : OwnK base w (.slice ao0 n0 c0) xs) (ao : Option Addr) (m c : Nat) (hx : a.eval x = .slice ao m c)
    (ys : List Tok) (hy : ToksAt w (.slice ao m c) ys) (hlen : xs.length + ys.length ≤ 4194304) (hbase : base ≤ w.heap.size)
    (h : ∀ ao' N' c' w', Hid (N' = xs.length + ys.length) → OwnK base w' (.slice ao' N' c') (xs ++ ys) → KeepK base w w' → wpList Tryd.prog ops Q rest (a.put o.dst (.slice ao' N' c')) w') : wpList Tryd.prog ops Q (o :: rest) a w := by
  refine wpList_append_toks hgd s x ho base _ xs hs hown ao m c hx ys hy hlen hbase fun v' w' h2 h3 h4 => ?_
  obtain ⟨ao', c', rfl⟩ := h2.len
  refine h ao' _ c' w' (by unfold Hid; simp) h2 (KeepK.of_grown h3 hown)

set_option maxHeartbeats 1000000 in
set_option maxRecDepth 100000 in
theorem l8Join_any (va vb : Value) (xs ys : List Tok) (t : Tok) (w : World) (ha : ExAt w va xs) (hb : ExAt w vb ys) (ht : t.In) (hl1 : xs.length ≤ 1048577) (hl2 : ys.length ≤ 1048577) :
    Calls Tryd.prog 64 #[va, vb, kv t] w (XOut w (xs ++ ys ++ [t])) := by
  obtain ⟨a, rfl, ha⟩ := ha
  obtain ⟨b, rfl, hb⟩ := hb
  have HA := Lib.hid ha
  have HB := Lib.hid hb
  obtain ⟨ao, ac, rfl⟩ := ha.len
  obtain ⟨bo, bc, rfl⟩ := hb.len
  clear ha hb
  obtain ⟨n, hn⟩ : ∃ n, n = xs.length := ⟨_, rfl⟩
  obtain ⟨m, hm⟩ : ∃ m, m = ys.length := ⟨_, rfl⟩
  rw [← hn] at HA hl1 ⊢
  rw [← hm] at HB hl2 ⊢
  have HN := Lib.hid hn
  have HM := Lib.hid hm
  clear hn hm
  unfold kv
  obtain ⟨y, hy⟩ : ∃ y, y = (((w.alloc (.cells #[.slice ao n ac] 26)).alloc (.cells #[.slice bo m bc] 26)).alloc (.cells #[.int .i64 t.kd, .int .i64 t.lr, .int .i64 t.lo, .int .i64 t.hi] 65)).alloc (.cells #[.slice none 0 0] 26) := ⟨_, rfl⟩
  have hsy : Since w y := by rw [hy]; exact ((((Since.refl w).alloc _).alloc _).alloc _).alloc _
  have BB : Hid (Blk y (w.heap.size + 1) 26 #[.slice bo m bc]) := by rw [hy]; exact ((Blk.new (by simp) _ _).alloc _).alloc _
  have BT : Hid (Blk y (w.heap.size + 1 + 1) 65 #[.int .i64 t.kd, .int .i64 t.lr, .int .i64 t.lo, .int .i64 t.hi]) := by rw [hy]; exact (Blk.new (by simp) _ _).alloc _
  have BR : Hid (Blk y (w.heap.size + 1 + 1 + 1) 26 #[.slice none 0 0]) := by rw [hy]; exact Blk.new (by simp) _ _
  have HY := Lib.hid hy
  clear hy
  go_enter Tryd.func64, Tryd.ntmps64
  go_wp2_with fail
  rw [← HY.out]
  have hq := Since.refl y
  refine (l8Copy_any _ xs _ (HA.out.since (hsy.trans hq)) (by have := HN.out; omega)).mono ?_
  rintro e w1 ⟨v1, rfl, ⟨c, rfl, ho, _⟩, hs1⟩
  obtain ⟨co, cc, rfl⟩ := ho.len
  have hs1y := hq.trans hs1
  have HO1 := Lib.hid (ho.mono hq.size)
  clear ho
  have hX : y.heap.size ≤ w1.heap.size := hs1y.size
  obtain ⟨N1, hN1⟩ : ∃ N, N = (xs).length := ⟨_, rfl⟩
  rw [← hN1] at HO1 ⊢
  have HN1 := Lib.hid hN1
  clear hN1
  have hs2 := hs1y.alloc (.cells #[.slice co N1 cc] 26)
  have BX2 := Lib.hid (Blk.new (w := w1) rfl 26 #[.slice co N1 cc])
  have HO2 := Lib.hid (HO1.out.since ((Since.refl w1).alloc (.cells #[.slice co N1 cc] 26)))
  go_upto_region 2 with fail
  generalize w1.alloc (.cells #[.slice co N1 cc] 26) = w2 at hs2 BX2 HO2 ⊢
  clear HO1
  obtain ⟨p0, q0⟩ := BX2.out.one
  obtain ⟨e0, e1⟩ := (BB.out.since hs2).one
  have hal2 : Since w2 w2 := Since.refl _
  go_upto_region 3 with (at_builtin; go_must (refine wpList_app rfl (.tmp 12) (.tmp 14) rfl y.heap.size co N1 cc xs rfl (HO2.out.since hal2) bo m bc rfl ys (HB.out.since (hsy.trans (hs2.trans hal2))) (by have := HN.out; have := HM.out; omega) (hs2.trans hal2).size ?_); intro do3 N3 dc3 v3 hN3 ho3 hk3; have BY3 := Lib.hid ((BX2.out.since hal2).keep hk3 (by decide)); obtain ⟨t0, u0⟩ := BY3.out.one)
  have HP3 := Lib.hid ho3
  have ht3 : Since y v3 := (hs2.trans hal2).keepK hk3
  clear ho3 hk3 t0 u0 p0 q0 e0 e1
  have hs3 := ht3.setCell (a := ⟨w1.heap.size, 0, none⟩) hX (.slice do3 N3 dc3)
  have BX3 := Lib.hid (BY3.out.set 0 (.slice do3 N3 dc3))
  have HO3 := Lib.hid (HP3.out.farT BY3.out (by decide) 0 (.slice do3 N3 dc3))
  generalize v3.setCell ⟨w1.heap.size, 0, none⟩ (.slice do3 N3 dc3) = w3 at hs3 BX3 HO3 ⊢
  clear BY3 HP3 ht3
  obtain ⟨p0, q0⟩ := BX3.out.one
  obtain ⟨e0, e1, e2, e3, _⟩ := (BT.out.since hs3).four
  have hal3 : Since w3 (w3.alloc (.cells #[.int .i64 t.kd, .int .i64 t.lr, .int .i64 t.lo, .int .i64 t.hi] 65)) := (Since.refl _).alloc _
  go_upto_region 4 with (at_builtin; go_must (refine wpList_app rfl (.tmp 18) (.tmp 20) rfl y.heap.size do3 N3 dc3 (xs ++ ys) rfl (HO3.out.since hal3) _ _ _ rfl [t] (tok_lit w3 t ht) (by have := HN.out; have := HM.out; simp; omega) (hs3.trans hal3).size ?_); intro do4 N4 dc4 v4 hN4 ho4 hk4; have BY4 := Lib.hid ((BX3.out.since hal3).keep hk4 (by decide)); obtain ⟨t0, u0⟩ := BY4.out.one)
  have HP4 := Lib.hid ho4
  have ht4 : Since y v4 := (hs3.trans hal3).keepK hk4
  clear ho4 hk4 t0 u0 p0 q0 e0 e1 e2 e3
  have hs4 := ht4.setCell (a := ⟨w1.heap.size, 0, none⟩) hX (.slice do4 N4 dc4)
  have BX4 := Lib.hid (BY4.out.set 0 (.slice do4 N4 dc4))
  have HO4 := Lib.hid (HP4.out.farT BY4.out (by decide) 0 (.slice do4 N4 dc4))
  generalize v4.setCell ⟨w1.heap.size, 0, none⟩ (.slice do4 N4 dc4) = w4 at hs4 BX4 HO4 ⊢
  clear BY4 HP4 ht4
  obtain ⟨p0, q0⟩ := BX4.out.one
  obtain ⟨r0, s0⟩ := (BR.out.since hs4).one
  go_wp2
  refine bodyPost_ret (v := .agg #[.slice do4 N4 dc4]) (by simp [results, Tryd.results64, go_sem, *]) rfl ?_
  have HR : Hid (OwnK w.heap.size w4 (.slice do4 N4 dc4) (xs ++ ys ++ [t])) := by have := HO4.out.mono hsy.size; first | exact this | simpa using this
  exact xout_boxT HR.out (hsy.trans hs4) (BR.out.since hs4) (by decide) (by omega) _
set_option maxHeartbeats 2000000 in
set_option maxRecDepth 100000 in
theorem implCE_any (va vb : Value) (xs ys : List Tok) (w : World) (ha : ExAt w va xs) (hb : ExAt w vb ys) (hl1 : xs.length ≤ 1048577) (hl2 : ys.length ≤ 1048577) :
    Calls Tryd.prog 14 #[va, vb] w (XOut w (catX xs ys)) := by
  obtain ⟨a, rfl, ha⟩ := ha
  obtain ⟨b, rfl, hb⟩ := hb
  have HA := Lib.hid ha
  have HB := Lib.hid hb
  obtain ⟨ao, ac, rfl⟩ := ha.len
  obtain ⟨bo, bc, rfl⟩ := hb.len
  clear ha hb
  obtain ⟨n, hn⟩ : ∃ n, n = xs.length := ⟨_, rfl⟩
  obtain ⟨m, hm⟩ : ∃ m, m = ys.length := ⟨_, rfl⟩
  rw [← hn] at HA ⊢
  rw [← hm] at HB ⊢
  have HN := Lib.hid hn
  have HM := Lib.hid hm
  clear hn hm
  obtain ⟨y, hy⟩ : ∃ y, y = ((w.alloc (.cells #[.slice ao n ac] 26)).alloc (.cells #[.slice bo m bc] 26)).alloc (.cells #[.slice none 0 0] 26) := ⟨_, rfl⟩
  have hsy : Since w y := by rw [hy]; exact (((Since.refl w).alloc _).alloc _).alloc _
  have aX : Hid (Blk y w.heap.size 26 #[.slice ao n ac]) := by rw [hy]; exact ((Blk.new rfl _ _).alloc _).alloc _
  have bX : Hid (Blk y (w.heap.size + 1) 26 #[.slice bo m bc]) := by rw [hy]; exact (Blk.new (by simp) _ _).alloc _
  have BR : Hid (Blk y (w.heap.size + 1 + 1) 26 #[.slice none 0 0]) := by rw [hy]; exact Blk.new (by simp) _ _
  have hq := Since.refl y
  have q0 : Hid (Since w y) := hsy
  go_enter Tryd.func14, Tryd.ntmps14
  obtain ⟨a0, a1⟩ := aX.out.one
  obtain ⟨b0, b1⟩ := bX.out.one
  rw [hy] at a0 a1 b0 b1
  have HY := Lib.hid hy
  clear hy
  go_wp2_with fail
  clear a0 a1 b0 b1
  rw [← HY.out]
  refine (isAlone_any _ xs 1 _ ⟨_, rfl, HA.out.since hsy⟩ hl1).mono ?_
  rintro e u1 ⟨rfl, hs2⟩
  have q3 := hq.trans hs2
  clear hs2
  obtain ⟨z, hz⟩ : ∃ z, z = alone xs 1 := ⟨_, rfl⟩
  rw [← hz]
  have F4 := Lib.hid hz.symm
  clear hz
  cases z
  case true =>
    obtain ⟨a0, a1⟩ := (aX.out.since q3).one
    obtain ⟨b0, b1⟩ := (bX.out.since q3).one
    go_wp2_with fail
    clear a0 a1 b0 b1
    refine (leaf_any 1 _ (by decide)).mono ?_
    rintro e u5 ⟨v, rfl, ⟨b, rfl, ho, _⟩, hs6⟩
    obtain ⟨ro, N, rc, hN, rfl⟩ := ho.lenN
    have hqe := q3.trans hs6
    have HO := Lib.hid (ho.mono (Nat.le_trans hsy.size (q3).size))
    clear ho
    obtain ⟨r0, r1⟩ := (BR.out.since hqe).one
    have HR : Hid (OwnK w.heap.size u5 (.slice ro N rc) (catX xs ys)) := by
      rw [show catX xs ys = [leafK 1] from by unfold catX; rw [F4.out]; rfl]; exact HO.out
    clear HO
    go_wp2_with fail
    refine bodyPost_ret (v := .agg #[.slice ro N rc]) (by simp [results, Tryd.results14, go_sem, *]) rfl ?_
    exact xout_boxT HR.out (hsy.trans hqe) (BR.out.since hqe) (by decide) (by omega) _
  case false =>
    obtain ⟨a0, a1⟩ := (aX.out.since q3).one
    obtain ⟨b0, b1⟩ := (bX.out.since q3).one
    go_wp2_with fail
    clear a0 a1 b0 b1
    refine (isAlone_any _ ys 1 _ ⟨_, rfl, HB.out.since (hsy.trans q3)⟩ hl2).mono ?_
    rintro e u7 ⟨rfl, hs8⟩
    have q9 := q3.trans hs8
    clear hs8
    obtain ⟨z, hz⟩ : ∃ z, z = alone ys 1 := ⟨_, rfl⟩
    rw [← hz]
    have F10 := Lib.hid hz.symm
    clear hz
    cases z
    case true =>
      obtain ⟨a0, a1⟩ := (aX.out.since q9).one
      obtain ⟨b0, b1⟩ := (bX.out.since q9).one
      go_wp2_with fail
      clear a0 a1 b0 b1
      refine (leaf_any 1 _ (by decide)).mono ?_
      rintro e u11 ⟨v, rfl, ⟨b, rfl, ho, _⟩, hs12⟩
      obtain ⟨ro, N, rc, hN, rfl⟩ := ho.lenN
      have hqe := q9.trans hs12
      have HO := Lib.hid (ho.mono (Nat.le_trans hsy.size (q9).size))
      clear ho
      obtain ⟨r0, r1⟩ := (BR.out.since hqe).one
      have HR : Hid (OwnK w.heap.size u11 (.slice ro N rc) (catX xs ys)) := by
        rw [show catX xs ys = [leafK 1] from by unfold catX; rw [F4.out]; rw [F10.out]; rfl]; exact HO.out
      clear HO
      go_wp2_with fail
      refine bodyPost_ret (v := .agg #[.slice ro N rc]) (by simp [results, Tryd.results14, go_sem, *]) rfl ?_
      exact xout_boxT HR.out (hsy.trans hqe) (BR.out.since hqe) (by decide) (by omega) _
    case false =>
      obtain ⟨a0, a1⟩ := (aX.out.since q9).one
      obtain ⟨b0, b1⟩ := (bX.out.since q9).one
      go_wp2_with fail
      clear a0 a1 b0 b1
      refine (isAlone_any _ xs 2 _ ⟨_, rfl, HA.out.since (hsy.trans q9)⟩ hl1).mono ?_
      rintro e u13 ⟨rfl, hs14⟩
      have q15 := q9.trans hs14
      clear hs14
      obtain ⟨z, hz⟩ : ∃ z, z = alone xs 2 := ⟨_, rfl⟩
      rw [← hz]
      have F16 := Lib.hid hz.symm
      clear hz
      cases z
      case true =>
        obtain ⟨a0, a1⟩ := (aX.out.since q15).one
        obtain ⟨b0, b1⟩ := (bX.out.since q15).one
        go_wp2_with fail
        clear a0 a1 b0 b1
        refine (copyExpr_any _ ys _ ⟨_, rfl, HB.out.since (hsy.trans q15)⟩ hl2).mono ?_
        rintro e u17 ⟨v, rfl, ⟨b, rfl, ho, _⟩, hs18⟩
        obtain ⟨ro, N, rc, hN, rfl⟩ := ho.lenN
        have hqe := q15.trans hs18
        have HO := Lib.hid (ho.mono (Nat.le_trans hsy.size (q15).size))
        clear ho
        obtain ⟨r0, r1⟩ := (BR.out.since hqe).one
        have HR : Hid (OwnK w.heap.size u17 (.slice ro N rc) (catX xs ys)) := by
          rw [show catX xs ys = ys from by unfold catX; rw [F4.out]; rw [F10.out]; rw [F16.out]; rfl]; exact HO.out
        clear HO
        go_wp2_with fail
        refine bodyPost_ret (v := .agg #[.slice ro N rc]) (by simp [results, Tryd.results14, go_sem, *]) rfl ?_
        exact xout_boxT HR.out (hsy.trans hqe) (BR.out.since hqe) (by decide) (by omega) _
      case false =>
        obtain ⟨a0, a1⟩ := (aX.out.since q15).one
        obtain ⟨b0, b1⟩ := (bX.out.since q15).one
        go_wp2_with fail
        clear a0 a1 b0 b1
        refine (isAlone_any _ ys 2 _ ⟨_, rfl, HB.out.since (hsy.trans q15)⟩ hl2).mono ?_
        rintro e u19 ⟨rfl, hs20⟩
        have q21 := q15.trans hs20
        clear hs20
        obtain ⟨z, hz⟩ : ∃ z, z = alone ys 2 := ⟨_, rfl⟩
        rw [← hz]
        have F22 := Lib.hid hz.symm
        clear hz
        cases z
        case true =>
          obtain ⟨a0, a1⟩ := (aX.out.since q21).one
          obtain ⟨b0, b1⟩ := (bX.out.since q21).one
          go_wp2_with fail
          clear a0 a1 b0 b1
          refine (copyExpr_any _ xs _ ⟨_, rfl, HA.out.since (hsy.trans q21)⟩ hl1).mono ?_
          rintro e u23 ⟨v, rfl, ⟨b, rfl, ho, _⟩, hs24⟩
          obtain ⟨ro, N, rc, hN, rfl⟩ := ho.lenN
          have hqe := q21.trans hs24
          have HO := Lib.hid (ho.mono (Nat.le_trans hsy.size (q21).size))
          clear ho
          obtain ⟨r0, r1⟩ := (BR.out.since hqe).one
          have HR : Hid (OwnK w.heap.size u23 (.slice ro N rc) (catX xs ys)) := by
            rw [show catX xs ys = xs from by unfold catX; rw [F4.out]; rw [F10.out]; rw [F16.out]; rw [F22.out]; rfl]; exact HO.out
          clear HO
          go_wp2_with fail
          refine bodyPost_ret (v := .agg #[.slice ro N rc]) (by simp [results, Tryd.results14, go_sem, *]) rfl ?_
          exact xout_boxT HR.out (hsy.trans hqe) (BR.out.since hqe) (by decide) (by omega) _
        case false =>
          have hal : Since u19 ((u19.alloc (.cells #[.int .i64 4, .int .i64 0, .int .i64 0, .int .i64 0] 65)).alloc (.cells #[.slice ao n ac, .slice bo m bc, .slice (some ⟨u19.heap.size, 0, none⟩) 1 1] 24)) := ((Since.refl _).alloc _).alloc _
          obtain ⟨a0, a1⟩ := (aX.out.since q21).one
          obtain ⟨b0, b1⟩ := (bX.out.since q21).one
          go_wp2_with fail
          clear a0 a1 b0 b1
          refine (concat3 _ _ _ _ xs ys [leafK 4] _ _ (Blk.new (by simp) _ _) (HA.out.since ((hsy.trans q21).trans hal)) (HB.out.since ((hsy.trans q21).trans hal)) ((tok_lit u19 (leafK 4) (leafK_in 4 (by decide))).since ((Since.refl _).alloc _)) rfl (by have := HN.out; have := HM.out; simp; omega)).mono ?_
          rintro e u25 ⟨v, rfl, ho, hs26⟩
          obtain ⟨ro, N, rc, hN, rfl⟩ := ho.lenN
          have hqe := (q21.trans hal).trans hs26
          have HO := Lib.hid (ho.mono (Nat.le_trans hsy.size ((q21.trans hal)).size))
          clear ho
          obtain ⟨r0, r1⟩ := (BR.out.since hqe).one
          have HR : Hid (OwnK w.heap.size u25 (.slice ro N rc) (catX xs ys)) := by
            rw [show catX xs ys = (xs ++ ys ++ [leafK 4]) from by unfold catX; rw [F4.out]; rw [F10.out]; rw [F16.out]; rw [F22.out]; rfl]; exact HO.out
          clear HO
          go_wp2_with fail
          refine bodyPost_ret (v := .agg #[.slice ro N rc]) (by simp [results, Tryd.results14, go_sem, *]) rfl ?_
          exact xout_boxT HR.out (hsy.trans hqe) (BR.out.since hqe) (by decide) (by omega) _
set_option maxHeartbeats 2000000 in
set_option maxRecDepth 100000 in
theorem specCE_any (va vb : Value) (xs ys : List Tok) (w : World) (ha : ExAt w va xs) (hb : ExAt w vb ys) (hl1 : xs.length ≤ 1048577) (hl2 : ys.length ≤ 1048577) :
    Calls Tryd.prog 18 #[va, vb] w (XOut w (catX xs ys)) := by
  obtain ⟨a, rfl, ha⟩ := ha
  obtain ⟨b, rfl, hb⟩ := hb
  have HA := Lib.hid ha
  have HB := Lib.hid hb
  obtain ⟨ao, ac, rfl⟩ := ha.len
  obtain ⟨bo, bc, rfl⟩ := hb.len
  clear ha hb
  obtain ⟨n, hn⟩ : ∃ n, n = xs.length := ⟨_, rfl⟩
  obtain ⟨m, hm⟩ : ∃ m, m = ys.length := ⟨_, rfl⟩
  rw [← hn] at HA ⊢
  rw [← hm] at HB ⊢
  have HN := Lib.hid hn
  have HM := Lib.hid hm
  clear hn hm
  obtain ⟨y, hy⟩ : ∃ y, y = ((w.alloc (.cells #[.slice ao n ac] 26)).alloc (.cells #[.slice bo m bc] 26)).alloc (.cells #[.slice none 0 0] 26) := ⟨_, rfl⟩
  have hsy : Since w y := by rw [hy]; exact (((Since.refl w).alloc _).alloc _).alloc _
  have aX : Hid (Blk y w.heap.size 26 #[.slice ao n ac]) := by rw [hy]; exact ((Blk.new rfl _ _).alloc _).alloc _
  have bX : Hid (Blk y (w.heap.size + 1) 26 #[.slice bo m bc]) := by rw [hy]; exact (Blk.new (by simp) _ _).alloc _
  have BR : Hid (Blk y (w.heap.size + 1 + 1) 26 #[.slice none 0 0]) := by rw [hy]; exact Blk.new (by simp) _ _
  have hq := Since.refl y
  have q0 : Hid (Since w y) := hsy
  go_enter Tryd.func18, Tryd.ntmps18
  obtain ⟨a0, a1⟩ := aX.out.one
  obtain ⟨b0, b1⟩ := bX.out.one
  rw [hy] at a0 a1 b0 b1
  have HY := Lib.hid hy
  clear hy
  go_wp2_with fail
  clear a0 a1 b0 b1
  rw [← HY.out]
  refine (l8Is_any _ xs 1 _ ⟨_, rfl, HA.out.since hsy⟩ hl1).mono ?_
  rintro e u1 ⟨rfl, hs2⟩
  have q3 := hq.trans hs2
  clear hs2
  obtain ⟨z, hz⟩ : ∃ z, z = alone xs 1 := ⟨_, rfl⟩
  rw [← hz]
  have F4 := Lib.hid hz.symm
  clear hz
  cases z
  case true =>
    obtain ⟨a0, a1⟩ := (aX.out.since q3).one
    obtain ⟨b0, b1⟩ := (bX.out.since q3).one
    go_wp2_with fail
    clear a0 a1 b0 b1
    refine (l8Leaf_any 1 _ (by decide)).mono ?_
    rintro e u5 ⟨v, rfl, ⟨b, rfl, ho, _⟩, hs6⟩
    obtain ⟨ro, N, rc, hN, rfl⟩ := ho.lenN
    have hqe := q3.trans hs6
    have HO := Lib.hid (ho.mono (Nat.le_trans hsy.size (q3).size))
    clear ho
    obtain ⟨r0, r1⟩ := (BR.out.since hqe).one
    have HR : Hid (OwnK w.heap.size u5 (.slice ro N rc) (catX xs ys)) := by
      rw [show catX xs ys = [leafK 1] from by unfold catX; rw [F4.out]; rfl]; exact HO.out
    clear HO
    go_wp2_with fail
    refine bodyPost_ret (v := .agg #[.slice ro N rc]) (by simp [results, Tryd.results18, go_sem, *]) rfl ?_
    exact xout_boxT HR.out (hsy.trans hqe) (BR.out.since hqe) (by decide) (by omega) _
  case false =>
    obtain ⟨a0, a1⟩ := (aX.out.since q3).one
    obtain ⟨b0, b1⟩ := (bX.out.since q3).one
    go_wp2_with fail
    clear a0 a1 b0 b1
    refine (l8Is_any _ ys 1 _ ⟨_, rfl, HB.out.since (hsy.trans q3)⟩ hl2).mono ?_
    rintro e u7 ⟨rfl, hs8⟩
    have q9 := q3.trans hs8
    clear hs8
    obtain ⟨z, hz⟩ : ∃ z, z = alone ys 1 := ⟨_, rfl⟩
    rw [← hz]
    have F10 := Lib.hid hz.symm
    clear hz
    cases z
    case true =>
      obtain ⟨a0, a1⟩ := (aX.out.since q9).one
      obtain ⟨b0, b1⟩ := (bX.out.since q9).one
      go_wp2_with fail
      clear a0 a1 b0 b1
      refine (l8Leaf_any 1 _ (by decide)).mono ?_
      rintro e u11 ⟨v, rfl, ⟨b, rfl, ho, _⟩, hs12⟩
      obtain ⟨ro, N, rc, hN, rfl⟩ := ho.lenN
      have hqe := q9.trans hs12
      have HO := Lib.hid (ho.mono (Nat.le_trans hsy.size (q9).size))
      clear ho
      obtain ⟨r0, r1⟩ := (BR.out.since hqe).one
      have HR : Hid (OwnK w.heap.size u11 (.slice ro N rc) (catX xs ys)) := by
        rw [show catX xs ys = [leafK 1] from by unfold catX; rw [F4.out]; rw [F10.out]; rfl]; exact HO.out
      clear HO
      go_wp2_with fail
      refine bodyPost_ret (v := .agg #[.slice ro N rc]) (by simp [results, Tryd.results18, go_sem, *]) rfl ?_
      exact xout_boxT HR.out (hsy.trans hqe) (BR.out.since hqe) (by decide) (by omega) _
    case false =>
      obtain ⟨a0, a1⟩ := (aX.out.since q9).one
      obtain ⟨b0, b1⟩ := (bX.out.since q9).one
      go_wp2_with fail
      clear a0 a1 b0 b1
      refine (l8Is_any _ xs 2 _ ⟨_, rfl, HA.out.since (hsy.trans q9)⟩ hl1).mono ?_
      rintro e u13 ⟨rfl, hs14⟩
      have q15 := q9.trans hs14
      clear hs14
      obtain ⟨z, hz⟩ : ∃ z, z = alone xs 2 := ⟨_, rfl⟩
      rw [← hz]
      have F16 := Lib.hid hz.symm
      clear hz
      cases z
      case true =>
        obtain ⟨a0, a1⟩ := (aX.out.since q15).one
        obtain ⟨b0, b1⟩ := (bX.out.since q15).one
        go_wp2_with fail
        clear a0 a1 b0 b1
        refine (l8Copy_any _ ys _ (HB.out.since (hsy.trans q15)) (by omega)).mono ?_
        rintro e u17 ⟨v, rfl, ⟨b, rfl, ho, _⟩, hs18⟩
        obtain ⟨ro, N, rc, hN, rfl⟩ := ho.lenN
        have hqe := q15.trans hs18
        have HO := Lib.hid (ho.mono (Nat.le_trans hsy.size (q15).size))
        clear ho
        obtain ⟨r0, r1⟩ := (BR.out.since hqe).one
        have HR : Hid (OwnK w.heap.size u17 (.slice ro N rc) (catX xs ys)) := by
          rw [show catX xs ys = ys from by unfold catX; rw [F4.out]; rw [F10.out]; rw [F16.out]; rfl]; exact HO.out
        clear HO
        go_wp2_with fail
        refine bodyPost_ret (v := .agg #[.slice ro N rc]) (by simp [results, Tryd.results18, go_sem, *]) rfl ?_
        exact xout_boxT HR.out (hsy.trans hqe) (BR.out.since hqe) (by decide) (by omega) _
      case false =>
        obtain ⟨a0, a1⟩ := (aX.out.since q15).one
        obtain ⟨b0, b1⟩ := (bX.out.since q15).one
        go_wp2_with fail
        clear a0 a1 b0 b1
        refine (l8Is_any _ ys 2 _ ⟨_, rfl, HB.out.since (hsy.trans q15)⟩ hl2).mono ?_
        rintro e u19 ⟨rfl, hs20⟩
        have q21 := q15.trans hs20
        clear hs20
        obtain ⟨z, hz⟩ : ∃ z, z = alone ys 2 := ⟨_, rfl⟩
        rw [← hz]
        have F22 := Lib.hid hz.symm
        clear hz
        cases z
        case true =>
          obtain ⟨a0, a1⟩ := (aX.out.since q21).one
          obtain ⟨b0, b1⟩ := (bX.out.since q21).one
          go_wp2_with fail
          clear a0 a1 b0 b1
          refine (l8Copy_any _ xs _ (HA.out.since (hsy.trans q21)) (by omega)).mono ?_
          rintro e u23 ⟨v, rfl, ⟨b, rfl, ho, _⟩, hs24⟩
          obtain ⟨ro, N, rc, hN, rfl⟩ := ho.lenN
          have hqe := q21.trans hs24
          have HO := Lib.hid (ho.mono (Nat.le_trans hsy.size (q21).size))
          clear ho
          obtain ⟨r0, r1⟩ := (BR.out.since hqe).one
          have HR : Hid (OwnK w.heap.size u23 (.slice ro N rc) (catX xs ys)) := by
            rw [show catX xs ys = xs from by unfold catX; rw [F4.out]; rw [F10.out]; rw [F16.out]; rw [F22.out]; rfl]; exact HO.out
          clear HO
          go_wp2_with fail
          refine bodyPost_ret (v := .agg #[.slice ro N rc]) (by simp [results, Tryd.results18, go_sem, *]) rfl ?_
          exact xout_boxT HR.out (hsy.trans hqe) (BR.out.since hqe) (by decide) (by omega) _
        case false =>
          obtain ⟨a0, a1⟩ := (aX.out.since q21).one
          obtain ⟨b0, b1⟩ := (bX.out.since q21).one
          go_wp2_with fail
          clear a0 a1 b0 b1
          refine (l8Join_any _ _ xs ys (leafK 4) _ ⟨_, rfl, HA.out.since (hsy.trans q21)⟩ ⟨_, rfl, HB.out.since (hsy.trans q21)⟩ (leafK_in 4 (by decide)) hl1 hl2).mono ?_
          rintro e u25 ⟨v, rfl, ⟨b, rfl, ho, _⟩, hs26⟩
          obtain ⟨ro, N, rc, hN, rfl⟩ := ho.lenN
          have hqe := q21.trans hs26
          have HO := Lib.hid (ho.mono (Nat.le_trans hsy.size (q21).size))
          clear ho
          obtain ⟨r0, r1⟩ := (BR.out.since hqe).one
          have HR : Hid (OwnK w.heap.size u25 (.slice ro N rc) (catX xs ys)) := by
            rw [show catX xs ys = (xs ++ ys ++ [leafK 4]) from by unfold catX; rw [F4.out]; rw [F10.out]; rw [F16.out]; rw [F22.out]; rfl]; exact HO.out
          clear HO
          go_wp2_with fail
          refine bodyPost_ret (v := .agg #[.slice ro N rc]) (by simp [results, Tryd.results18, go_sem, *]) rfl ?_
          exact xout_boxT HR.out (hsy.trans hqe) (BR.out.since hqe) (by decide) (by omega) _
set_option maxHeartbeats 2000000 in
set_option maxRecDepth 100000 in
theorem implUE_any (va vb : Value) (xs ys : List Tok) (w : World) (ha : ExAt w va xs) (hb : ExAt w vb ys) (hl1 : xs.length ≤ 1048577) (hl2 : ys.length ≤ 1048577) :
    Calls Tryd.prog 15 #[va, vb] w (XOut w (uniX xs ys)) := by
  obtain ⟨a, rfl, ha⟩ := ha
  obtain ⟨b, rfl, hb⟩ := hb
  have HA := Lib.hid ha
  have HB := Lib.hid hb
  obtain ⟨ao, ac, rfl⟩ := ha.len
  obtain ⟨bo, bc, rfl⟩ := hb.len
  clear ha hb
  obtain ⟨n, hn⟩ : ∃ n, n = xs.length := ⟨_, rfl⟩
  obtain ⟨m, hm⟩ : ∃ m, m = ys.length := ⟨_, rfl⟩
  rw [← hn] at HA ⊢
  rw [← hm] at HB ⊢
  have HN := Lib.hid hn
  have HM := Lib.hid hm
  clear hn hm
  obtain ⟨y, hy⟩ : ∃ y, y = ((w.alloc (.cells #[.slice ao n ac] 26)).alloc (.cells #[.slice bo m bc] 26)).alloc (.cells #[.slice none 0 0] 26) := ⟨_, rfl⟩
  have hsy : Since w y := by rw [hy]; exact (((Since.refl w).alloc _).alloc _).alloc _
  have aX : Hid (Blk y w.heap.size 26 #[.slice ao n ac]) := by rw [hy]; exact ((Blk.new rfl _ _).alloc _).alloc _
  have bX : Hid (Blk y (w.heap.size + 1) 26 #[.slice bo m bc]) := by rw [hy]; exact (Blk.new (by simp) _ _).alloc _
  have BR : Hid (Blk y (w.heap.size + 1 + 1) 26 #[.slice none 0 0]) := by rw [hy]; exact Blk.new (by simp) _ _
  have hq := Since.refl y
  have q0 : Hid (Since w y) := hsy
  go_enter Tryd.func15, Tryd.ntmps15
  obtain ⟨a0, a1⟩ := aX.out.one
  obtain ⟨b0, b1⟩ := bX.out.one
  rw [hy] at a0 a1 b0 b1
  have HY := Lib.hid hy
  clear hy
  go_wp2_with fail
  clear a0 a1 b0 b1
  rw [← HY.out]
  refine (isAlone_any _ xs 1 _ ⟨_, rfl, HA.out.since hsy⟩ hl1).mono ?_
  rintro e u1 ⟨rfl, hs2⟩
  have q3 := hq.trans hs2
  clear hs2
  obtain ⟨z, hz⟩ : ∃ z, z = alone xs 1 := ⟨_, rfl⟩
  rw [← hz]
  have F4 := Lib.hid hz.symm
  clear hz
  cases z
  case true =>
    obtain ⟨a0, a1⟩ := (aX.out.since q3).one
    obtain ⟨b0, b1⟩ := (bX.out.since q3).one
    go_wp2_with fail
    clear a0 a1 b0 b1
    refine (copyExpr_any _ ys _ ⟨_, rfl, HB.out.since (hsy.trans q3)⟩ hl2).mono ?_
    rintro e u5 ⟨v, rfl, ⟨b, rfl, ho, _⟩, hs6⟩
    obtain ⟨ro, N, rc, hN, rfl⟩ := ho.lenN
    have hqe := q3.trans hs6
    have HO := Lib.hid (ho.mono (Nat.le_trans hsy.size (q3).size))
    clear ho
    obtain ⟨r0, r1⟩ := (BR.out.since hqe).one
    have HR : Hid (OwnK w.heap.size u5 (.slice ro N rc) (uniX xs ys)) := by
      rw [show uniX xs ys = ys from by unfold uniX; rw [F4.out]; rfl]; exact HO.out
    clear HO
    go_wp2_with fail
    refine bodyPost_ret (v := .agg #[.slice ro N rc]) (by simp [results, Tryd.results15, go_sem, *]) rfl ?_
    exact xout_boxT HR.out (hsy.trans hqe) (BR.out.since hqe) (by decide) (by omega) _
  case false =>
    obtain ⟨a0, a1⟩ := (aX.out.since q3).one
    obtain ⟨b0, b1⟩ := (bX.out.since q3).one
    go_wp2_with fail
    clear a0 a1 b0 b1
    refine (implEE_any _ _ xs ys _ ⟨_, rfl, HA.out.since (hsy.trans q3)⟩ ⟨_, rfl, HB.out.since (hsy.trans q3)⟩ (by omega) (by omega)).mono ?_
    rintro e u7 ⟨rfl, hs8⟩
    have q9 := q3.trans hs8
    clear hs8
    obtain ⟨z, hz⟩ : ∃ z, z = decide (xs = ys) := ⟨_, rfl⟩
    rw [← hz]
    have F10 := Lib.hid hz.symm
    clear hz
    cases z
    case true =>
      obtain ⟨a0, a1⟩ := (aX.out.since q9).one
      obtain ⟨b0, b1⟩ := (bX.out.since q9).one
      go_wp2_with fail
      clear a0 a1 b0 b1
      refine (copyExpr_any _ ys _ ⟨_, rfl, HB.out.since (hsy.trans q9)⟩ hl2).mono ?_
      rintro e u11 ⟨v, rfl, ⟨b, rfl, ho, _⟩, hs12⟩
      obtain ⟨ro, N, rc, hN, rfl⟩ := ho.lenN
      have hqe := q9.trans hs12
      have HO := Lib.hid (ho.mono (Nat.le_trans hsy.size (q9).size))
      clear ho
      obtain ⟨r0, r1⟩ := (BR.out.since hqe).one
      have HR : Hid (OwnK w.heap.size u11 (.slice ro N rc) (uniX xs ys)) := by
        rw [show uniX xs ys = ys from by unfold uniX; rw [F4.out]; rw [F10.out]; rfl]; exact HO.out
      clear HO
      go_wp2_with fail
      refine bodyPost_ret (v := .agg #[.slice ro N rc]) (by simp [results, Tryd.results15, go_sem, *]) rfl ?_
      exact xout_boxT HR.out (hsy.trans hqe) (BR.out.since hqe) (by decide) (by omega) _
    case false =>
      obtain ⟨a0, a1⟩ := (aX.out.since q9).one
      obtain ⟨b0, b1⟩ := (bX.out.since q9).one
      go_wp2_with fail
      clear a0 a1 b0 b1
      refine (isAlone_any _ ys 1 _ ⟨_, rfl, HB.out.since (hsy.trans q9)⟩ hl2).mono ?_
      rintro e u13 ⟨rfl, hs14⟩
      have q15 := q9.trans hs14
      clear hs14
      obtain ⟨z, hz⟩ : ∃ z, z = alone ys 1 := ⟨_, rfl⟩
      rw [← hz]
      have F16 := Lib.hid hz.symm
      clear hz
      cases z
      case true =>
        obtain ⟨a0, a1⟩ := (aX.out.since q15).one
        obtain ⟨b0, b1⟩ := (bX.out.since q15).one
        go_wp2_with fail
        clear a0 a1 b0 b1
        refine (copyExpr_any _ xs _ ⟨_, rfl, HA.out.since (hsy.trans q15)⟩ hl1).mono ?_
        rintro e u17 ⟨v, rfl, ⟨b, rfl, ho, _⟩, hs18⟩
        obtain ⟨ro, N, rc, hN, rfl⟩ := ho.lenN
        have hqe := q15.trans hs18
        have HO := Lib.hid (ho.mono (Nat.le_trans hsy.size (q15).size))
        clear ho
        obtain ⟨r0, r1⟩ := (BR.out.since hqe).one
        have HR : Hid (OwnK w.heap.size u17 (.slice ro N rc) (uniX xs ys)) := by
          rw [show uniX xs ys = xs from by unfold uniX; rw [F4.out]; rw [F10.out]; rw [F16.out]; rfl]; exact HO.out
        clear HO
        go_wp2_with fail
        refine bodyPost_ret (v := .agg #[.slice ro N rc]) (by simp [results, Tryd.results15, go_sem, *]) rfl ?_
        exact xout_boxT HR.out (hsy.trans hqe) (BR.out.since hqe) (by decide) (by omega) _
      case false =>
        have hal : Since u13 ((u13.alloc (.cells #[.int .i64 5, .int .i64 0, .int .i64 0, .int .i64 0] 65)).alloc (.cells #[.slice ao n ac, .slice bo m bc, .slice (some ⟨u13.heap.size, 0, none⟩) 1 1] 24)) := ((Since.refl _).alloc _).alloc _
        obtain ⟨a0, a1⟩ := (aX.out.since q15).one
        obtain ⟨b0, b1⟩ := (bX.out.since q15).one
        go_wp2_with fail
        clear a0 a1 b0 b1
        refine (concat3 _ _ _ _ xs ys [leafK 5] _ _ (Blk.new (by simp) _ _) (HA.out.since ((hsy.trans q15).trans hal)) (HB.out.since ((hsy.trans q15).trans hal)) ((tok_lit u13 (leafK 5) (leafK_in 5 (by decide))).since ((Since.refl _).alloc _)) rfl (by have := HN.out; have := HM.out; simp; omega)).mono ?_
        rintro e u19 ⟨v, rfl, ho, hs20⟩
        obtain ⟨ro, N, rc, hN, rfl⟩ := ho.lenN
        have hqe := (q15.trans hal).trans hs20
        have HO := Lib.hid (ho.mono (Nat.le_trans hsy.size ((q15.trans hal)).size))
        clear ho
        obtain ⟨r0, r1⟩ := (BR.out.since hqe).one
        have HR : Hid (OwnK w.heap.size u19 (.slice ro N rc) (uniX xs ys)) := by
          rw [show uniX xs ys = (xs ++ ys ++ [leafK 5]) from by unfold uniX; rw [F4.out]; rw [F10.out]; rw [F16.out]; rfl]; exact HO.out
        clear HO
        go_wp2_with fail
        refine bodyPost_ret (v := .agg #[.slice ro N rc]) (by simp [results, Tryd.results15, go_sem, *]) rfl ?_
        exact xout_boxT HR.out (hsy.trans hqe) (BR.out.since hqe) (by decide) (by omega) _
set_option maxHeartbeats 2000000 in
set_option maxRecDepth 100000 in
theorem specUE_any (va vb : Value) (xs ys : List Tok) (w : World) (ha : ExAt w va xs) (hb : ExAt w vb ys) (hl1 : xs.length ≤ 1048577) (hl2 : ys.length ≤ 1048577) :
    Calls Tryd.prog 19 #[va, vb] w (XOut w (uniX xs ys)) := by
  obtain ⟨a, rfl, ha⟩ := ha
  obtain ⟨b, rfl, hb⟩ := hb
  have HA := Lib.hid ha
  have HB := Lib.hid hb
  obtain ⟨ao, ac, rfl⟩ := ha.len
  obtain ⟨bo, bc, rfl⟩ := hb.len
  clear ha hb
  obtain ⟨n, hn⟩ : ∃ n, n = xs.length := ⟨_, rfl⟩
  obtain ⟨m, hm⟩ : ∃ m, m = ys.length := ⟨_, rfl⟩
  rw [← hn] at HA ⊢
  rw [← hm] at HB ⊢
  have HN := Lib.hid hn
  have HM := Lib.hid hm
  clear hn hm
  obtain ⟨y, hy⟩ : ∃ y, y = ((w.alloc (.cells #[.slice ao n ac] 26)).alloc (.cells #[.slice bo m bc] 26)).alloc (.cells #[.slice none 0 0] 26) := ⟨_, rfl⟩
  have hsy : Since w y := by rw [hy]; exact (((Since.refl w).alloc _).alloc _).alloc _
  have aX : Hid (Blk y w.heap.size 26 #[.slice ao n ac]) := by rw [hy]; exact ((Blk.new rfl _ _).alloc _).alloc _
  have bX : Hid (Blk y (w.heap.size + 1) 26 #[.slice bo m bc]) := by rw [hy]; exact (Blk.new (by simp) _ _).alloc _
  have BR : Hid (Blk y (w.heap.size + 1 + 1) 26 #[.slice none 0 0]) := by rw [hy]; exact Blk.new (by simp) _ _
  have hq := Since.refl y
  have q0 : Hid (Since w y) := hsy
  go_enter Tryd.func19, Tryd.ntmps19
  obtain ⟨a0, a1⟩ := aX.out.one
  obtain ⟨b0, b1⟩ := bX.out.one
  rw [hy] at a0 a1 b0 b1
  have HY := Lib.hid hy
  clear hy
  go_wp2_with fail
  clear a0 a1 b0 b1
  rw [← HY.out]
  refine (l8Is_any _ xs 1 _ ⟨_, rfl, HA.out.since hsy⟩ hl1).mono ?_
  rintro e u1 ⟨rfl, hs2⟩
  have q3 := hq.trans hs2
  clear hs2
  obtain ⟨z, hz⟩ : ∃ z, z = alone xs 1 := ⟨_, rfl⟩
  rw [← hz]
  have F4 := Lib.hid hz.symm
  clear hz
  cases z
  case true =>
    obtain ⟨a0, a1⟩ := (aX.out.since q3).one
    obtain ⟨b0, b1⟩ := (bX.out.since q3).one
    go_wp2_with fail
    clear a0 a1 b0 b1
    refine (l8Copy_any _ ys _ (HB.out.since (hsy.trans q3)) (by omega)).mono ?_
    rintro e u5 ⟨v, rfl, ⟨b, rfl, ho, _⟩, hs6⟩
    obtain ⟨ro, N, rc, hN, rfl⟩ := ho.lenN
    have hqe := q3.trans hs6
    have HO := Lib.hid (ho.mono (Nat.le_trans hsy.size (q3).size))
    clear ho
    obtain ⟨r0, r1⟩ := (BR.out.since hqe).one
    have HR : Hid (OwnK w.heap.size u5 (.slice ro N rc) (uniX xs ys)) := by
      rw [show uniX xs ys = ys from by unfold uniX; rw [F4.out]; rfl]; exact HO.out
    clear HO
    go_wp2_with fail
    refine bodyPost_ret (v := .agg #[.slice ro N rc]) (by simp [results, Tryd.results19, go_sem, *]) rfl ?_
    exact xout_boxT HR.out (hsy.trans hqe) (BR.out.since hqe) (by decide) (by omega) _
  case false =>
    obtain ⟨a0, a1⟩ := (aX.out.since q3).one
    obtain ⟨b0, b1⟩ := (bX.out.since q3).one
    go_wp2_with fail
    clear a0 a1 b0 b1
    refine (specEE_any _ _ xs ys _ ⟨_, rfl, HA.out.since (hsy.trans q3)⟩ ⟨_, rfl, HB.out.since (hsy.trans q3)⟩ (by omega) (by omega)).mono ?_
    rintro e u7 ⟨rfl, hs8⟩
    have q9 := q3.trans hs8
    clear hs8
    obtain ⟨z, hz⟩ : ∃ z, z = decide (xs = ys) := ⟨_, rfl⟩
    rw [← hz]
    have F10 := Lib.hid hz.symm
    clear hz
    cases z
    case true =>
      obtain ⟨a0, a1⟩ := (aX.out.since q9).one
      obtain ⟨b0, b1⟩ := (bX.out.since q9).one
      go_wp2_with fail
      clear a0 a1 b0 b1
      refine (l8Copy_any _ ys _ (HB.out.since (hsy.trans q9)) (by omega)).mono ?_
      rintro e u11 ⟨v, rfl, ⟨b, rfl, ho, _⟩, hs12⟩
      obtain ⟨ro, N, rc, hN, rfl⟩ := ho.lenN
      have hqe := q9.trans hs12
      have HO := Lib.hid (ho.mono (Nat.le_trans hsy.size (q9).size))
      clear ho
      obtain ⟨r0, r1⟩ := (BR.out.since hqe).one
      have HR : Hid (OwnK w.heap.size u11 (.slice ro N rc) (uniX xs ys)) := by
        rw [show uniX xs ys = ys from by unfold uniX; rw [F4.out]; rw [F10.out]; rfl]; exact HO.out
      clear HO
      go_wp2_with fail
      refine bodyPost_ret (v := .agg #[.slice ro N rc]) (by simp [results, Tryd.results19, go_sem, *]) rfl ?_
      exact xout_boxT HR.out (hsy.trans hqe) (BR.out.since hqe) (by decide) (by omega) _
    case false =>
      obtain ⟨a0, a1⟩ := (aX.out.since q9).one
      obtain ⟨b0, b1⟩ := (bX.out.since q9).one
      go_wp2_with fail
      clear a0 a1 b0 b1
      refine (l8Is_any _ ys 1 _ ⟨_, rfl, HB.out.since (hsy.trans q9)⟩ hl2).mono ?_
      rintro e u13 ⟨rfl, hs14⟩
      have q15 := q9.trans hs14
      clear hs14
      obtain ⟨z, hz⟩ : ∃ z, z = alone ys 1 := ⟨_, rfl⟩
      rw [← hz]
      have F16 := Lib.hid hz.symm
      clear hz
      cases z
      case true =>
        obtain ⟨a0, a1⟩ := (aX.out.since q15).one
        obtain ⟨b0, b1⟩ := (bX.out.since q15).one
        go_wp2_with fail
        clear a0 a1 b0 b1
        refine (l8Copy_any _ xs _ (HA.out.since (hsy.trans q15)) (by omega)).mono ?_
        rintro e u17 ⟨v, rfl, ⟨b, rfl, ho, _⟩, hs18⟩
        obtain ⟨ro, N, rc, hN, rfl⟩ := ho.lenN
        have hqe := q15.trans hs18
        have HO := Lib.hid (ho.mono (Nat.le_trans hsy.size (q15).size))
        clear ho
        obtain ⟨r0, r1⟩ := (BR.out.since hqe).one
        have HR : Hid (OwnK w.heap.size u17 (.slice ro N rc) (uniX xs ys)) := by
          rw [show uniX xs ys = xs from by unfold uniX; rw [F4.out]; rw [F10.out]; rw [F16.out]; rfl]; exact HO.out
        clear HO
        go_wp2_with fail
        refine bodyPost_ret (v := .agg #[.slice ro N rc]) (by simp [results, Tryd.results19, go_sem, *]) rfl ?_
        exact xout_boxT HR.out (hsy.trans hqe) (BR.out.since hqe) (by decide) (by omega) _
      case false =>
        obtain ⟨a0, a1⟩ := (aX.out.since q15).one
        obtain ⟨b0, b1⟩ := (bX.out.since q15).one
        go_wp2_with fail
        clear a0 a1 b0 b1
        refine (l8Join_any _ _ xs ys (leafK 5) _ ⟨_, rfl, HA.out.since (hsy.trans q15)⟩ ⟨_, rfl, HB.out.since (hsy.trans q15)⟩ (leafK_in 5 (by decide)) hl1 hl2).mono ?_
        rintro e u19 ⟨v, rfl, ⟨b, rfl, ho, _⟩, hs20⟩
        obtain ⟨ro, N, rc, hN, rfl⟩ := ho.lenN
        have hqe := q15.trans hs20
        have HO := Lib.hid (ho.mono (Nat.le_trans hsy.size (q15).size))
        clear ho
        obtain ⟨r0, r1⟩ := (BR.out.since hqe).one
        have HR : Hid (OwnK w.heap.size u19 (.slice ro N rc) (uniX xs ys)) := by
          rw [show uniX xs ys = (xs ++ ys ++ [leafK 5]) from by unfold uniX; rw [F4.out]; rw [F10.out]; rw [F16.out]; rfl]; exact HO.out
        clear HO
        go_wp2_with fail
        refine bodyPost_ret (v := .agg #[.slice ro N rc]) (by simp [results, Tryd.results19, go_sem, *]) rfl ?_
        exact xout_boxT HR.out (hsy.trans hqe) (BR.out.since hqe) (by decide) (by omega) _
set_option maxHeartbeats 2000000 in
set_option maxRecDepth 100000 in
theorem implTE_any (va : Value) (xs : List Tok) (w : World) (ha : ExAt w va xs) (hl1 : xs.length ≤ 1048577) :
    Calls Tryd.prog 16 #[va] w (XOut w (starX xs)) := by
  obtain ⟨a, rfl, ha⟩ := ha
  have HA := Lib.hid ha
  obtain ⟨ao, ac, rfl, HC⟩ := ha.row
  clear ha
  obtain ⟨n, hn⟩ : ∃ n, n = xs.length := ⟨_, rfl⟩
  rw [← hn] at HA ⊢
  have HN := Lib.hid hn
  have hn9 : n ≤ 1048577 := by omega
  clear hn
  rcases Nat.eq_zero_or_pos n with h0 | h0
  · subst h0
    have HLB : Hid (lastB xs 6 = false) := by rw [List.eq_nil_of_length_eq_zero HN.out.symm]; rfl
    clear HC
    obtain ⟨y, hy⟩ : ∃ y, y = (w.alloc (.cells #[.slice ao 0 ac] 26)).alloc (.cells #[.slice none 0 0] 26) := ⟨_, rfl⟩
    have hsy : Since w y := by rw [hy]; exact ((Since.refl w).alloc _).alloc _
    have aX : Hid (Blk y w.heap.size 26 #[.slice ao 0 ac]) := by rw [hy]; exact (Blk.new rfl _ _).alloc _
    have BR : Hid (Blk y (w.heap.size + 1) 26 #[.slice none 0 0]) := by rw [hy]; exact Blk.new (by simp) _ _
    have hq := Since.refl y
    go_enter Tryd.func16, Tryd.ntmps16
    obtain ⟨a0, a1⟩ := aX.out.one
    rw [hy] at a0 a1
    have HY := Lib.hid hy
    clear hy
    go_wp2_with fail
    clear a0 a1
    rw [← HY.out]
    refine (isAlone_any _ xs 1 _ ⟨_, rfl, HA.out.since hsy⟩ hl1).mono ?_
    rintro e u1 ⟨rfl, hs2⟩
    have q3 := hq.trans hs2
    clear hs2
    obtain ⟨z, hz⟩ : ∃ z, z = alone xs 1 := ⟨_, rfl⟩
    rw [← hz]
    have F4 := Lib.hid hz.symm
    clear hz
    cases z
    case true =>
      obtain ⟨a0, a1⟩ := (aX.out.since q3).one
      go_wp2_with fail
      clear a0 a1
      refine (leaf_any 2 _ (by decide)).mono ?_
      rintro e u5 ⟨v, rfl, ⟨b, rfl, ho, _⟩, hs6⟩
      obtain ⟨ro, N, rc, hN, rfl⟩ := ho.lenN
      have hqe := q3.trans hs6
      have HO := Lib.hid (ho.mono (Nat.le_trans hsy.size (q3).size))
      clear ho
      obtain ⟨r0, r1⟩ := (BR.out.since hqe).one
      have HR : Hid (OwnK w.heap.size u5 (.slice ro N rc) (starX xs)) := by
        rw [show starX xs = [leafK 2] from by unfold starX; rw [F4.out]; rfl]; exact HO.out
      clear HO
      go_wp2_with fail
      refine bodyPost_ret (v := .agg #[.slice ro N rc]) (by simp [results, Tryd.results16, go_sem, *]) rfl ?_
      exact xout_boxT HR.out (hsy.trans hqe) (BR.out.since hqe) (by decide) (by omega) _
    case false =>
      obtain ⟨a0, a1⟩ := (aX.out.since q3).one
      go_wp2_with fail
      clear a0 a1
      refine (isAlone_any _ xs 2 _ ⟨_, rfl, HA.out.since (hsy.trans q3)⟩ hl1).mono ?_
      rintro e u7 ⟨rfl, hs8⟩
      have q9 := q3.trans hs8
      clear hs8
      obtain ⟨z, hz⟩ : ∃ z, z = alone xs 2 := ⟨_, rfl⟩
      rw [← hz]
      have F10 := Lib.hid hz.symm
      clear hz
      cases z
      case true =>
        obtain ⟨a0, a1⟩ := (aX.out.since q9).one
        go_wp2_with fail
        clear a0 a1
        refine (leaf_any 2 _ (by decide)).mono ?_
        rintro e u11 ⟨v, rfl, ⟨b, rfl, ho, _⟩, hs12⟩
        obtain ⟨ro, N, rc, hN, rfl⟩ := ho.lenN
        have hqe := q9.trans hs12
        have HO := Lib.hid (ho.mono (Nat.le_trans hsy.size (q9).size))
        clear ho
        obtain ⟨r0, r1⟩ := (BR.out.since hqe).one
        have HR : Hid (OwnK w.heap.size u11 (.slice ro N rc) (starX xs)) := by
          rw [show starX xs = [leafK 2] from by unfold starX; rw [F4.out]; rw [F10.out]; rfl]; exact HO.out
        clear HO
        go_wp2_with fail
        refine bodyPost_ret (v := .agg #[.slice ro N rc]) (by simp [results, Tryd.results16, go_sem, *]) rfl ?_
        exact xout_boxT HR.out (hsy.trans hqe) (BR.out.since hqe) (by decide) (by omega) _
      case false =>
        have hal : Since u7 ((u7.alloc (.cells #[.int .i64 6, .int .i64 0, .int .i64 0, .int .i64 0] 65)).alloc (.cells #[.slice ao 0 ac, .slice (some ⟨u7.heap.size, 0, none⟩) 1 1] 24)) := ((Since.refl _).alloc _).alloc _
        obtain ⟨a0, a1⟩ := (aX.out.since q9).one
        go_wp2_with fail
        clear a0 a1
        refine (concat2 _ _ _ xs [leafK 6] _ _ (Blk.new (by simp) _ _) (HA.out.since ((hsy.trans q9).trans hal)) ((tok_lit u7 (leafK 6) (leafK_in 6 (by decide))).since ((Since.refl _).alloc _)) rfl (by simp; omega)).mono ?_
        rintro e u13 ⟨v, rfl, ho, hs14⟩
        obtain ⟨ro, N, rc, hN, rfl⟩ := ho.lenN
        have hqe := (q9.trans hal).trans hs14
        have HO := Lib.hid (ho.mono (Nat.le_trans hsy.size ((q9.trans hal)).size))
        clear ho
        obtain ⟨r0, r1⟩ := (BR.out.since hqe).one
        have HR : Hid (OwnK w.heap.size u13 (.slice ro N rc) (starX xs)) := by
          rw [show starX xs = (xs ++ [leafK 6]) from by unfold starX; rw [F4.out]; rw [F10.out]; rw [HLB.out]; rfl]; exact HO.out
        clear HO
        go_wp2_with fail
        refine bodyPost_ret (v := .agg #[.slice ro N rc]) (by simp [results, Tryd.results16, go_sem, *]) rfl ?_
        exact xout_boxT HR.out (hsy.trans hqe) (BR.out.since hqe) (by decide) (by omega) _
  · obtain ⟨k, rfl⟩ : ∃ k, n = k + 1 := ⟨n - 1, by omega⟩
    obtain ⟨z, hz⟩ : ∃ z, z = lastB xs 6 := ⟨_, rfl⟩
    have HLB := Lib.hid hz.symm
    clear hz
    have hkx : k < xs.length := by have := HN.out; omega
    obtain ⟨bb, off, rfl, hbb, c0, _⟩ := HC.out k hkx
    have hz2 : (xs[k].kd == 6) = z := by
      have h1 : xs.getLast? = some xs[k] := by
        rw [List.getLast?_eq_getElem?, ← HN.out, show k + 1 - 1 = k from by omega, List.getElem?_eq_getElem hkx]
      have := HLB.out
      unfold lastB at this
      rw [h1] at this
      exact this
    obtain ⟨kk, hkk⟩ : ∃ kk, kk = xs[k].kd := ⟨_, rfl⟩
    rw [← hkk] at c0 hz2
    clear hkk HC h0
    have C0 := Lib.hid c0
    have HZ := Lib.hid hz2
    clear c0 hz2
    obtain ⟨y, hy⟩ : ∃ y, y = (w.alloc (.cells #[.slice (some ⟨bb, off, none⟩) (k + 1) ac] 26)).alloc (.cells #[.slice none 0 0] 26) := ⟨_, rfl⟩
    have hsy : Since w y := by rw [hy]; exact ((Since.refl w).alloc _).alloc _
    have aX : Hid (Blk y w.heap.size 26 #[.slice (some ⟨bb, off, none⟩) (k + 1) ac]) := by rw [hy]; exact (Blk.new rfl _ _).alloc _
    have BR : Hid (Blk y (w.heap.size + 1) 26 #[.slice none 0 0]) := by rw [hy]; exact Blk.new (by simp) _ _
    have hq := Since.refl y
    go_enter Tryd.func16, Tryd.ntmps16
    obtain ⟨a0, a1⟩ := aX.out.one
    rw [hy] at a0 a1
    have HY := Lib.hid hy
    clear hy
    go_wp2_with fail
    clear a0 a1
    rw [← HY.out]
    refine (isAlone_any _ xs 1 _ ⟨_, rfl, HA.out.since hsy⟩ hl1).mono ?_
    rintro e u15 ⟨rfl, hs16⟩
    have q17 := hq.trans hs16
    clear hs16
    obtain ⟨z, hz⟩ : ∃ z, z = alone xs 1 := ⟨_, rfl⟩
    rw [← hz]
    have F18 := Lib.hid hz.symm
    clear hz
    cases z
    case true =>
      obtain ⟨a0, a1⟩ := (aX.out.since q17).one
      go_wp2_with fail
      clear a0 a1
      refine (leaf_any 2 _ (by decide)).mono ?_
      rintro e u19 ⟨v, rfl, ⟨b, rfl, ho, _⟩, hs20⟩
      obtain ⟨ro, N, rc, hN, rfl⟩ := ho.lenN
      have hqe := q17.trans hs20
      have HO := Lib.hid (ho.mono (Nat.le_trans hsy.size (q17).size))
      clear ho
      obtain ⟨r0, r1⟩ := (BR.out.since hqe).one
      have HR : Hid (OwnK w.heap.size u19 (.slice ro N rc) (starX xs)) := by
        rw [show starX xs = [leafK 2] from by unfold starX; rw [F18.out]; rfl]; exact HO.out
      clear HO
      go_wp2_with fail
      refine bodyPost_ret (v := .agg #[.slice ro N rc]) (by simp [results, Tryd.results16, go_sem, *]) rfl ?_
      exact xout_boxT HR.out (hsy.trans hqe) (BR.out.since hqe) (by decide) (by omega) _
    case false =>
      obtain ⟨a0, a1⟩ := (aX.out.since q17).one
      go_wp2_with fail
      clear a0 a1
      refine (isAlone_any _ xs 2 _ ⟨_, rfl, HA.out.since (hsy.trans q17)⟩ hl1).mono ?_
      rintro e u21 ⟨rfl, hs22⟩
      have q23 := q17.trans hs22
      clear hs22
      obtain ⟨z, hz⟩ : ∃ z, z = alone xs 2 := ⟨_, rfl⟩
      rw [← hz]
      have F24 := Lib.hid hz.symm
      clear hz
      cases z
      case true =>
        obtain ⟨a0, a1⟩ := (aX.out.since q23).one
        go_wp2_with fail
        clear a0 a1
        refine (leaf_any 2 _ (by decide)).mono ?_
        rintro e u25 ⟨v, rfl, ⟨b, rfl, ho, _⟩, hs26⟩
        obtain ⟨ro, N, rc, hN, rfl⟩ := ho.lenN
        have hqe := q23.trans hs26
        have HO := Lib.hid (ho.mono (Nat.le_trans hsy.size (q23).size))
        clear ho
        obtain ⟨r0, r1⟩ := (BR.out.since hqe).one
        have HR : Hid (OwnK w.heap.size u25 (.slice ro N rc) (starX xs)) := by
          rw [show starX xs = [leafK 2] from by unfold starX; rw [F18.out]; rw [F24.out]; rfl]; exact HO.out
        clear HO
        go_wp2_with fail
        refine bodyPost_ret (v := .agg #[.slice ro N rc]) (by simp [results, Tryd.results16, go_sem, *]) rfl ?_
        exact xout_boxT HR.out (hsy.trans hqe) (BR.out.since hqe) (by decide) (by omega) _
      case false =>
        have c0 := (since_cells (hsy.trans q23) hbb _).trans C0.out
        have hz2 := HZ.out
        have kk0 : (0 : Int) ≤ (k : Int) := by omega
        cases z
        case true =>
          obtain ⟨a0, a1⟩ := (aX.out.since q23).one
          go_wp2_with fail
          clear a0 a1
          refine (copyExpr_any _ xs _ ⟨_, rfl, HA.out.since (hsy.trans q23)⟩ hl1).mono ?_
          rintro e u27 ⟨v, rfl, ⟨b, rfl, ho, _⟩, hs28⟩
          obtain ⟨ro, N, rc, hN, rfl⟩ := ho.lenN
          have hqe := q23.trans hs28
          have HO := Lib.hid (ho.mono (Nat.le_trans hsy.size (q23).size))
          clear ho
          obtain ⟨r0, r1⟩ := (BR.out.since hqe).one
          have HR : Hid (OwnK w.heap.size u27 (.slice ro N rc) (starX xs)) := by
            rw [show starX xs = xs from by unfold starX; rw [F18.out]; rw [F24.out]; rw [HLB.out]; rfl]; exact HO.out
          clear HO
          go_wp2_with fail
          refine bodyPost_ret (v := .agg #[.slice ro N rc]) (by simp [results, Tryd.results16, go_sem, *]) rfl ?_
          exact xout_boxT HR.out (hsy.trans hqe) (BR.out.since hqe) (by decide) (by omega) _
        case false =>
          have hal : Since u21 ((u21.alloc (.cells #[.int .i64 6, .int .i64 0, .int .i64 0, .int .i64 0] 65)).alloc (.cells #[.slice (some ⟨bb, off, none⟩) (k + 1) ac, .slice (some ⟨u21.heap.size, 0, none⟩) 1 1] 24)) := ((Since.refl _).alloc _).alloc _
          obtain ⟨a0, a1⟩ := (aX.out.since q23).one
          go_wp2_with fail
          clear a0 a1
          refine (concat2 _ _ _ xs [leafK 6] _ _ (Blk.new (by simp) _ _) (HA.out.since ((hsy.trans q23).trans hal)) ((tok_lit u21 (leafK 6) (leafK_in 6 (by decide))).since ((Since.refl _).alloc _)) rfl (by simp; omega)).mono ?_
          rintro e u29 ⟨v, rfl, ho, hs30⟩
          obtain ⟨ro, N, rc, hN, rfl⟩ := ho.lenN
          have hqe := (q23.trans hal).trans hs30
          have HO := Lib.hid (ho.mono (Nat.le_trans hsy.size ((q23.trans hal)).size))
          clear ho
          obtain ⟨r0, r1⟩ := (BR.out.since hqe).one
          have HR : Hid (OwnK w.heap.size u29 (.slice ro N rc) (starX xs)) := by
            rw [show starX xs = (xs ++ [leafK 6]) from by unfold starX; rw [F18.out]; rw [F24.out]; rw [HLB.out]; rfl]; exact HO.out
          clear HO
          go_wp2_with fail
          refine bodyPost_ret (v := .agg #[.slice ro N rc]) (by simp [results, Tryd.results16, go_sem, *]) rfl ?_
          exact xout_boxT HR.out (hsy.trans hqe) (BR.out.since hqe) (by decide) (by omega) _
set_option maxHeartbeats 2000000 in
set_option maxRecDepth 100000 in
theorem specTE_any (va : Value) (xs : List Tok) (w : World) (ha : ExAt w va xs) (hl1 : xs.length ≤ 1048577) :
    Calls Tryd.prog 20 #[va] w (XOut w (starX xs)) := by
  obtain ⟨a, rfl, ha⟩ := ha
  have HA := Lib.hid ha
  obtain ⟨ao, ac, rfl, HC⟩ := ha.row
  clear ha
  obtain ⟨n, hn⟩ : ∃ n, n = xs.length := ⟨_, rfl⟩
  rw [← hn] at HA ⊢
  have HN := Lib.hid hn
  have hn9 : n ≤ 1048577 := by omega
  clear hn
  rcases Nat.eq_zero_or_pos n with h0 | h0
  · subst h0
    have HLB : Hid (lastB xs 6 = false) := by rw [List.eq_nil_of_length_eq_zero HN.out.symm]; rfl
    clear HC
    obtain ⟨y, hy⟩ : ∃ y, y = (w.alloc (.cells #[.slice ao 0 ac] 26)).alloc (.cells #[.slice none 0 0] 26) := ⟨_, rfl⟩
    have hsy : Since w y := by rw [hy]; exact ((Since.refl w).alloc _).alloc _
    have aX : Hid (Blk y w.heap.size 26 #[.slice ao 0 ac]) := by rw [hy]; exact (Blk.new rfl _ _).alloc _
    have BR : Hid (Blk y (w.heap.size + 1) 26 #[.slice none 0 0]) := by rw [hy]; exact Blk.new (by simp) _ _
    have hq := Since.refl y
    go_enter Tryd.func20, Tryd.ntmps20
    obtain ⟨a0, a1⟩ := aX.out.one
    rw [hy] at a0 a1
    have HY := Lib.hid hy
    clear hy
    go_wp2_with fail
    clear a0 a1
    rw [← HY.out]
    refine (l8Is_any _ xs 1 _ ⟨_, rfl, HA.out.since hsy⟩ hl1).mono ?_
    rintro e u1 ⟨rfl, hs2⟩
    have q3 := hq.trans hs2
    clear hs2
    obtain ⟨z, hz⟩ : ∃ z, z = alone xs 1 := ⟨_, rfl⟩
    rw [← hz]
    have F4 := Lib.hid hz.symm
    clear hz
    cases z
    case true =>
      obtain ⟨a0, a1⟩ := (aX.out.since q3).one
      go_wp2_with fail
      clear a0 a1
      refine (l8Leaf_any 2 _ (by decide)).mono ?_
      rintro e u5 ⟨v, rfl, ⟨b, rfl, ho, _⟩, hs6⟩
      obtain ⟨ro, N, rc, hN, rfl⟩ := ho.lenN
      have hqe := q3.trans hs6
      have HO := Lib.hid (ho.mono (Nat.le_trans hsy.size (q3).size))
      clear ho
      obtain ⟨r0, r1⟩ := (BR.out.since hqe).one
      have HR : Hid (OwnK w.heap.size u5 (.slice ro N rc) (starX xs)) := by
        rw [show starX xs = [leafK 2] from by unfold starX; rw [F4.out]; rfl]; exact HO.out
      clear HO
      go_wp2_with fail
      refine bodyPost_ret (v := .agg #[.slice ro N rc]) (by simp [results, Tryd.results20, go_sem, *]) rfl ?_
      exact xout_boxT HR.out (hsy.trans hqe) (BR.out.since hqe) (by decide) (by omega) _
    case false =>
      obtain ⟨a0, a1⟩ := (aX.out.since q3).one
      go_wp2_with fail
      clear a0 a1
      refine (l8Is_any _ xs 2 _ ⟨_, rfl, HA.out.since (hsy.trans q3)⟩ hl1).mono ?_
      rintro e u7 ⟨rfl, hs8⟩
      have q9 := q3.trans hs8
      clear hs8
      obtain ⟨z, hz⟩ : ∃ z, z = alone xs 2 := ⟨_, rfl⟩
      rw [← hz]
      have F10 := Lib.hid hz.symm
      clear hz
      cases z
      case true =>
        obtain ⟨a0, a1⟩ := (aX.out.since q9).one
        go_wp2_with fail
        clear a0 a1
        refine (l8Leaf_any 2 _ (by decide)).mono ?_
        rintro e u11 ⟨v, rfl, ⟨b, rfl, ho, _⟩, hs12⟩
        obtain ⟨ro, N, rc, hN, rfl⟩ := ho.lenN
        have hqe := q9.trans hs12
        have HO := Lib.hid (ho.mono (Nat.le_trans hsy.size (q9).size))
        clear ho
        obtain ⟨r0, r1⟩ := (BR.out.since hqe).one
        have HR : Hid (OwnK w.heap.size u11 (.slice ro N rc) (starX xs)) := by
          rw [show starX xs = [leafK 2] from by unfold starX; rw [F4.out]; rw [F10.out]; rfl]; exact HO.out
        clear HO
        go_wp2_with fail
        refine bodyPost_ret (v := .agg #[.slice ro N rc]) (by simp [results, Tryd.results20, go_sem, *]) rfl ?_
        exact xout_boxT HR.out (hsy.trans hqe) (BR.out.since hqe) (by decide) (by omega) _
      case false =>
        obtain ⟨a0, a1⟩ := (aX.out.since q9).one
        go_wp2_with fail
        clear a0 a1
        refine (l8Copy_any _ xs _ (HA.out.since (hsy.trans q9)) (by omega)).mono ?_
        rintro e w1 ⟨v1, rfl, ⟨c, rfl, ho, _⟩, hs1⟩
        obtain ⟨co, cc, rfl⟩ := ho.len
        have hs1y := q9.trans hs1
        have HO1 := Lib.hid (ho.mono q9.size)
        clear ho
        have hX : y.heap.size ≤ w1.heap.size := hs1y.size
        obtain ⟨N1, hN1⟩ : ∃ N, N = (xs).length := ⟨_, rfl⟩
        rw [← hN1] at HO1 ⊢
        have HN1 := Lib.hid hN1
        clear hN1
        have hs2 := hs1y.alloc (.cells #[.slice co N1 cc] 26)
        have BX2 := Lib.hid (Blk.new (w := w1) rfl 26 #[.slice co N1 cc])
        have HO2 := Lib.hid (HO1.out.since ((Since.refl w1).alloc (.cells #[.slice co N1 cc] 26)))
        go_upto_region 6 with fail
        generalize w1.alloc (.cells #[.slice co N1 cc] 26) = w2 at hs2 BX2 HO2 ⊢
        clear HO1
        obtain ⟨p0, q0⟩ := BX2.out.one
        have hal2 : Since w2 (w2.alloc (.cells #[.int .i64 6, .int .i64 0, .int .i64 0, .int .i64 0] 65)) := (Since.refl _).alloc _
        go_upto_region 7 with (at_builtin; go_must (refine wpList_app rfl (.tmp 34) (.tmp 36) rfl y.heap.size co N1 cc xs rfl (HO2.out.since hal2) _ _ _ rfl [leafK 6] (tok_lit w2 (leafK 6) (leafK_in 6 (by decide))) (by simp; omega) (hs2.trans hal2).size ?_); intro do3 N3 dc3 v3 hN3 ho3 hk3; have BY3 := Lib.hid ((BX2.out.since hal2).keep hk3 (by decide)); obtain ⟨t0, u0⟩ := BY3.out.one)
        have HP3 := Lib.hid ho3
        have ht3 : Since y v3 := (hs2.trans hal2).keepK hk3
        clear ho3 hk3 t0 u0 p0 q0 
        have hs3 := ht3.setCell (a := ⟨w1.heap.size, 0, none⟩) hX (.slice do3 N3 dc3)
        have BX3 := Lib.hid (BY3.out.set 0 (.slice do3 N3 dc3))
        have HO3 := Lib.hid (HP3.out.farT BY3.out (by decide) 0 (.slice do3 N3 dc3))
        generalize v3.setCell ⟨w1.heap.size, 0, none⟩ (.slice do3 N3 dc3) = w3 at hs3 BX3 HO3 ⊢
        clear BY3 HP3 ht3
        obtain ⟨p0, q0⟩ := BX3.out.one
        obtain ⟨r0, s0⟩ := (BR.out.since hs3).one
        go_wp2
        refine bodyPost_ret (v := .agg #[.slice do3 N3 dc3]) (by simp [results, Tryd.results20, go_sem, *]) rfl ?_
        have HR : Hid (OwnK w.heap.size w3 (.slice do3 N3 dc3) (starX xs)) := by rw [show starX xs = (xs ++ [leafK 6]) from by unfold starX; rw [F4.out]; rw [F10.out]; rw [HLB.out]; rfl]; have := HO3.out.mono hsy.size; first | exact this | simpa using this
        exact xout_boxT HR.out (hsy.trans hs3) (BR.out.since hs3) (by decide) (by omega) _
  · obtain ⟨k, rfl⟩ : ∃ k, n = k + 1 := ⟨n - 1, by omega⟩
    obtain ⟨z, hz⟩ : ∃ z, z = lastB xs 6 := ⟨_, rfl⟩
    have HLB := Lib.hid hz.symm
    clear hz
    have hkx : k < xs.length := by have := HN.out; omega
    obtain ⟨bb, off, rfl, hbb, c0, _⟩ := HC.out k hkx
    have hz2 : (xs[k].kd == 6) = z := by
      have h1 : xs.getLast? = some xs[k] := by
        rw [List.getLast?_eq_getElem?, ← HN.out, show k + 1 - 1 = k from by omega, List.getElem?_eq_getElem hkx]
      have := HLB.out
      unfold lastB at this
      rw [h1] at this
      exact this
    obtain ⟨kk, hkk⟩ : ∃ kk, kk = xs[k].kd := ⟨_, rfl⟩
    rw [← hkk] at c0 hz2
    clear hkk HC h0
    have C0 := Lib.hid c0
    have HZ := Lib.hid hz2
    clear c0 hz2
    obtain ⟨y, hy⟩ : ∃ y, y = (w.alloc (.cells #[.slice (some ⟨bb, off, none⟩) (k + 1) ac] 26)).alloc (.cells #[.slice none 0 0] 26) := ⟨_, rfl⟩
    have hsy : Since w y := by rw [hy]; exact ((Since.refl w).alloc _).alloc _
    have aX : Hid (Blk y w.heap.size 26 #[.slice (some ⟨bb, off, none⟩) (k + 1) ac]) := by rw [hy]; exact (Blk.new rfl _ _).alloc _
    have BR : Hid (Blk y (w.heap.size + 1) 26 #[.slice none 0 0]) := by rw [hy]; exact Blk.new (by simp) _ _
    have hq := Since.refl y
    go_enter Tryd.func20, Tryd.ntmps20
    obtain ⟨a0, a1⟩ := aX.out.one
    rw [hy] at a0 a1
    have HY := Lib.hid hy
    clear hy
    go_wp2_with fail
    clear a0 a1
    rw [← HY.out]
    refine (l8Is_any _ xs 1 _ ⟨_, rfl, HA.out.since hsy⟩ hl1).mono ?_
    rintro e u13 ⟨rfl, hs14⟩
    have q15 := hq.trans hs14
    clear hs14
    obtain ⟨z, hz⟩ : ∃ z, z = alone xs 1 := ⟨_, rfl⟩
    rw [← hz]
    have F16 := Lib.hid hz.symm
    clear hz
    cases z
    case true =>
      obtain ⟨a0, a1⟩ := (aX.out.since q15).one
      go_wp2_with fail
      clear a0 a1
      refine (l8Leaf_any 2 _ (by decide)).mono ?_
      rintro e u17 ⟨v, rfl, ⟨b, rfl, ho, _⟩, hs18⟩
      obtain ⟨ro, N, rc, hN, rfl⟩ := ho.lenN
      have hqe := q15.trans hs18
      have HO := Lib.hid (ho.mono (Nat.le_trans hsy.size (q15).size))
      clear ho
      obtain ⟨r0, r1⟩ := (BR.out.since hqe).one
      have HR : Hid (OwnK w.heap.size u17 (.slice ro N rc) (starX xs)) := by
        rw [show starX xs = [leafK 2] from by unfold starX; rw [F16.out]; rfl]; exact HO.out
      clear HO
      go_wp2_with fail
      refine bodyPost_ret (v := .agg #[.slice ro N rc]) (by simp [results, Tryd.results20, go_sem, *]) rfl ?_
      exact xout_boxT HR.out (hsy.trans hqe) (BR.out.since hqe) (by decide) (by omega) _
    case false =>
      obtain ⟨a0, a1⟩ := (aX.out.since q15).one
      go_wp2_with fail
      clear a0 a1
      refine (l8Is_any _ xs 2 _ ⟨_, rfl, HA.out.since (hsy.trans q15)⟩ hl1).mono ?_
      rintro e u19 ⟨rfl, hs20⟩
      have q21 := q15.trans hs20
      clear hs20
      obtain ⟨z, hz⟩ : ∃ z, z = alone xs 2 := ⟨_, rfl⟩
      rw [← hz]
      have F22 := Lib.hid hz.symm
      clear hz
      cases z
      case true =>
        obtain ⟨a0, a1⟩ := (aX.out.since q21).one
        go_wp2_with fail
        clear a0 a1
        refine (l8Leaf_any 2 _ (by decide)).mono ?_
        rintro e u23 ⟨v, rfl, ⟨b, rfl, ho, _⟩, hs24⟩
        obtain ⟨ro, N, rc, hN, rfl⟩ := ho.lenN
        have hqe := q21.trans hs24
        have HO := Lib.hid (ho.mono (Nat.le_trans hsy.size (q21).size))
        clear ho
        obtain ⟨r0, r1⟩ := (BR.out.since hqe).one
        have HR : Hid (OwnK w.heap.size u23 (.slice ro N rc) (starX xs)) := by
          rw [show starX xs = [leafK 2] from by unfold starX; rw [F16.out]; rw [F22.out]; rfl]; exact HO.out
        clear HO
        go_wp2_with fail
        refine bodyPost_ret (v := .agg #[.slice ro N rc]) (by simp [results, Tryd.results20, go_sem, *]) rfl ?_
        exact xout_boxT HR.out (hsy.trans hqe) (BR.out.since hqe) (by decide) (by omega) _
      case false =>
        have c0 := (since_cells (hsy.trans q21) hbb _).trans C0.out
        have hz2 := HZ.out
        have kk0 : (0 : Int) ≤ (k : Int) := by omega
        cases z
        case true =>
          obtain ⟨a0, a1⟩ := (aX.out.since q21).one
          go_wp2_with fail
          clear a0 a1
          refine (l8Copy_any _ xs _ (HA.out.since (hsy.trans q21)) (by omega)).mono ?_
          rintro e u25 ⟨v, rfl, ⟨b, rfl, ho, _⟩, hs26⟩
          obtain ⟨ro, N, rc, hN, rfl⟩ := ho.lenN
          have hqe := q21.trans hs26
          have HO := Lib.hid (ho.mono (Nat.le_trans hsy.size (q21).size))
          clear ho
          obtain ⟨r0, r1⟩ := (BR.out.since hqe).one
          have HR : Hid (OwnK w.heap.size u25 (.slice ro N rc) (starX xs)) := by
            rw [show starX xs = xs from by unfold starX; rw [F16.out]; rw [F22.out]; rw [HLB.out]; rfl]; exact HO.out
          clear HO
          go_wp2_with fail
          refine bodyPost_ret (v := .agg #[.slice ro N rc]) (by simp [results, Tryd.results20, go_sem, *]) rfl ?_
          exact xout_boxT HR.out (hsy.trans hqe) (BR.out.since hqe) (by decide) (by omega) _
        case false =>
          obtain ⟨a0, a1⟩ := (aX.out.since q21).one
          go_wp2_with fail
          clear a0 a1
          refine (l8Copy_any _ xs _ (HA.out.since (hsy.trans q21)) (by omega)).mono ?_
          rintro e w1 ⟨v1, rfl, ⟨c, rfl, ho, _⟩, hs1⟩
          obtain ⟨co, cc, rfl⟩ := ho.len
          have hs1y := q21.trans hs1
          have HO1 := Lib.hid (ho.mono q21.size)
          clear ho
          have hX : y.heap.size ≤ w1.heap.size := hs1y.size
          obtain ⟨N1, hN1⟩ : ∃ N, N = (xs).length := ⟨_, rfl⟩
          rw [← hN1] at HO1 ⊢
          have HN1 := Lib.hid hN1
          clear hN1
          have hs2 := hs1y.alloc (.cells #[.slice co N1 cc] 26)
          have BX2 := Lib.hid (Blk.new (w := w1) rfl 26 #[.slice co N1 cc])
          have HO2 := Lib.hid (HO1.out.since ((Since.refl w1).alloc (.cells #[.slice co N1 cc] 26)))
          go_upto_region 6 with fail
          generalize w1.alloc (.cells #[.slice co N1 cc] 26) = w2 at hs2 BX2 HO2 ⊢
          clear HO1
          obtain ⟨p0, q0⟩ := BX2.out.one
          have hal2 : Since w2 (w2.alloc (.cells #[.int .i64 6, .int .i64 0, .int .i64 0, .int .i64 0] 65)) := (Since.refl _).alloc _
          go_upto_region 7 with (at_builtin; go_must (refine wpList_app rfl (.tmp 34) (.tmp 36) rfl y.heap.size co N1 cc xs rfl (HO2.out.since hal2) _ _ _ rfl [leafK 6] (tok_lit w2 (leafK 6) (leafK_in 6 (by decide))) (by simp; omega) (hs2.trans hal2).size ?_); intro do3 N3 dc3 v3 hN3 ho3 hk3; have BY3 := Lib.hid ((BX2.out.since hal2).keep hk3 (by decide)); obtain ⟨t0, u0⟩ := BY3.out.one)
          have HP3 := Lib.hid ho3
          have ht3 : Since y v3 := (hs2.trans hal2).keepK hk3
          clear ho3 hk3 t0 u0 p0 q0 
          have hs3 := ht3.setCell (a := ⟨w1.heap.size, 0, none⟩) hX (.slice do3 N3 dc3)
          have BX3 := Lib.hid (BY3.out.set 0 (.slice do3 N3 dc3))
          have HO3 := Lib.hid (HP3.out.farT BY3.out (by decide) 0 (.slice do3 N3 dc3))
          generalize v3.setCell ⟨w1.heap.size, 0, none⟩ (.slice do3 N3 dc3) = w3 at hs3 BX3 HO3 ⊢
          clear BY3 HP3 ht3
          obtain ⟨p0, q0⟩ := BX3.out.one
          obtain ⟨r0, s0⟩ := (BR.out.since hs3).one
          go_wp2
          refine bodyPost_ret (v := .agg #[.slice do3 N3 dc3]) (by simp [results, Tryd.results20, go_sem, *]) rfl ?_
          have HR : Hid (OwnK w.heap.size w3 (.slice do3 N3 dc3) (starX xs)) := by rw [show starX xs = (xs ++ [leafK 6]) from by unfold starX; rw [F16.out]; rw [F22.out]; rw [HLB.out]; rfl]; have := HO3.out.mono hsy.size; first | exact this | simpa using this
          exact xout_boxT HR.out (hsy.trans hs3) (BR.out.since hs3) (by decide) (by omega) _
set_option maxHeartbeats 2000000 in
set_option maxRecDepth 100000 in
theorem implPE8_any (va : Value) (xs : List Tok) (lo hi : Int) (w : World) (ha : ExAt w va xs) (hl1 : xs.length ≤ 1048577) (hlo : InI lo) (hhi : InI hi) :
    Calls Tryd.prog 109 #[va, .int .i64 lo, .int .i64 hi] w (XOut w (repX xs lo hi)) := by
  obtain ⟨a, rfl, ha⟩ := ha
  have HA := Lib.hid ha
  obtain ⟨ao, ac, rfl, HC⟩ := ha.row
  clear ha
  obtain ⟨n, hn⟩ : ∃ n, n = xs.length := ⟨_, rfl⟩
  rw [← hn] at HA ⊢
  have HN := Lib.hid hn
  have hn9 : n ≤ 1048577 := by omega
  clear hn
  clear HC
  obtain ⟨y, hy⟩ : ∃ y, y = (w.alloc (.cells #[.slice ao n ac] 26)).alloc (.cells #[.slice none 0 0] 26) := ⟨_, rfl⟩
  have hsy : Since w y := by rw [hy]; exact ((Since.refl w).alloc _).alloc _
  have aX : Hid (Blk y w.heap.size 26 #[.slice ao n ac]) := by rw [hy]; exact (Blk.new rfl _ _).alloc _
  have BR : Hid (Blk y (w.heap.size + 1) 26 #[.slice none 0 0]) := by rw [hy]; exact Blk.new (by simp) _ _
  have hq := Since.refl y
  have HY := Lib.hid hy
  clear hy
  have HTI : Hid ((⟨7, 0, lo, hi⟩ : Tok).In) := ⟨int_lit 7 (by decide), int_lit 0 (by decide), hlo, hhi⟩
  have h01 : lo = 0 ∨ lo = 1 ∨ (lo ≠ 0 ∧ lo ≠ 1) := by omega
  have g01 : hi = 0 ∨ hi = 1 ∨ (hi ≠ 0 ∧ hi ≠ 1) := by omega
  clear hlo hhi
  rcases h01 with h1 | h1 | h1 <;> rcases g01 with g1 | g1 | g1
  · have e1 : (lo == 0) = true := by simp; omega
    have e2 : (lo == 1) = false := by simp; omega
    have e3 : (hi == 0) = true := by simp; omega
    have e4 : (hi == 1) = false := by simp; omega
    have E1 := Lib.hid e1; have E2 := Lib.hid e2; have E3 := Lib.hid e3; have E4 := Lib.hid e4
    clear h1 g1
    go_enter Tryd.func109, Tryd.ntmps109
    obtain ⟨a0, a1⟩ := aX.out.one
    rw [HY.out] at a0 a1
    go_wp2_with fail
    clear a0 a1
    rw [← HY.out]
    refine (leaf_any 2 _ (by decide)).mono ?_
    rintro e u1 ⟨v, rfl, ⟨b, rfl, ho, _⟩, hs1⟩
    obtain ⟨ro, N, rc, hN, rfl⟩ := ho.lenN
    have hqe := hq.trans hs1
    have HO := Lib.hid (ho.mono (Nat.le_trans hsy.size (hq).size))
    clear ho
    obtain ⟨r0, r1⟩ := (BR.out.since hqe).one
    have HR : Hid (OwnK w.heap.size u1 (.slice ro N rc) (repX xs lo hi)) := by
      rw [show repX xs lo hi = [leafK 2] from by unfold repX; rw [E1.out, E2.out, E3.out, E4.out]; rfl]; exact HO.out
    clear HO
    go_wp2_with fail
    refine bodyPost_ret (v := .agg #[.slice ro N rc]) (by simp [results, Tryd.results109, go_sem, *]) rfl ?_
    exact xout_boxT HR.out (hsy.trans hqe) (BR.out.since hqe) (by decide) (by omega) _
  · have e1 : (lo == 0) = true := by simp; omega
    have e2 : (lo == 1) = false := by simp; omega
    have e3 : (hi == 0) = false := by simp; omega
    have e4 : (hi == 1) = true := by simp; omega
    have E1 := Lib.hid e1; have E2 := Lib.hid e2; have E3 := Lib.hid e3; have E4 := Lib.hid e4
    clear h1 g1
    go_enter Tryd.func109, Tryd.ntmps109
    obtain ⟨a0, a1⟩ := aX.out.one
    rw [HY.out] at a0 a1
    have hal : Since y ((y.alloc (.cells #[.int .i64 7, .int .i64 0, .int .i64 lo, .int .i64 hi] 65)).alloc (.cells #[.slice ao n ac, .slice (some ⟨y.heap.size, 0, none⟩) 1 1] 24)) := ((Since.refl _).alloc _).alloc _
    go_upto_region 5 with fail
    clear a0 a1
    rw [← HY.out]
    obtain ⟨a0, a1⟩ := aX.out.one
    go_wp2_with fail
    clear a0 a1
    refine (concat2 _ _ _ xs [⟨7, 0, lo, hi⟩] _ _ (Blk.new (by simp) _ _) (HA.out.since ((hsy.trans hq).trans hal)) ((tok_lit y ⟨7, 0, lo, hi⟩ HTI.out).since ((Since.refl _).alloc _)) rfl (by simp; omega)).mono ?_
    rintro e u1 ⟨v, rfl, ho, hs1⟩
    obtain ⟨ro, N, rc, hN, rfl⟩ := ho.lenN
    have hqe := (hq.trans hal).trans hs1
    have HO := Lib.hid (ho.mono (Nat.le_trans hsy.size ((hq.trans hal)).size))
    clear ho
    obtain ⟨r0, r1⟩ := (BR.out.since hqe).one
    have HR : Hid (OwnK w.heap.size u1 (.slice ro N rc) (repX xs lo hi)) := by
      rw [show repX xs lo hi = (xs ++ [⟨7, 0, lo, hi⟩]) from by unfold repX; rw [E1.out, E2.out, E3.out, E4.out]; rfl]; exact HO.out
    clear HO
    go_wp2_with fail
    refine bodyPost_ret (v := .agg #[.slice ro N rc]) (by simp [results, Tryd.results109, go_sem, *]) rfl ?_
    exact xout_boxT HR.out (hsy.trans hqe) (BR.out.since hqe) (by decide) (by omega) _
  · have e1 : (lo == 0) = true := by simp; omega
    have e2 : (lo == 1) = false := by simp; omega
    have e3 : (hi == 0) = false := by simp; omega
    have e4 : (hi == 1) = false := by simp; omega
    have E1 := Lib.hid e1; have E2 := Lib.hid e2; have E3 := Lib.hid e3; have E4 := Lib.hid e4
    clear h1 g1
    go_enter Tryd.func109, Tryd.ntmps109
    obtain ⟨a0, a1⟩ := aX.out.one
    rw [HY.out] at a0 a1
    have hal : Since y ((y.alloc (.cells #[.int .i64 7, .int .i64 0, .int .i64 lo, .int .i64 hi] 65)).alloc (.cells #[.slice ao n ac, .slice (some ⟨y.heap.size, 0, none⟩) 1 1] 24)) := ((Since.refl _).alloc _).alloc _
    go_upto_region 5 with fail
    clear a0 a1
    rw [← HY.out]
    obtain ⟨a0, a1⟩ := aX.out.one
    go_wp2_with fail
    clear a0 a1
    refine (concat2 _ _ _ xs [⟨7, 0, lo, hi⟩] _ _ (Blk.new (by simp) _ _) (HA.out.since ((hsy.trans hq).trans hal)) ((tok_lit y ⟨7, 0, lo, hi⟩ HTI.out).since ((Since.refl _).alloc _)) rfl (by simp; omega)).mono ?_
    rintro e u1 ⟨v, rfl, ho, hs1⟩
    obtain ⟨ro, N, rc, hN, rfl⟩ := ho.lenN
    have hqe := (hq.trans hal).trans hs1
    have HO := Lib.hid (ho.mono (Nat.le_trans hsy.size ((hq.trans hal)).size))
    clear ho
    obtain ⟨r0, r1⟩ := (BR.out.since hqe).one
    have HR : Hid (OwnK w.heap.size u1 (.slice ro N rc) (repX xs lo hi)) := by
      rw [show repX xs lo hi = (xs ++ [⟨7, 0, lo, hi⟩]) from by unfold repX; rw [E1.out, E2.out, E3.out, E4.out]; rfl]; exact HO.out
    clear HO
    go_wp2_with fail
    refine bodyPost_ret (v := .agg #[.slice ro N rc]) (by simp [results, Tryd.results109, go_sem, *]) rfl ?_
    exact xout_boxT HR.out (hsy.trans hqe) (BR.out.since hqe) (by decide) (by omega) _
  · have e1 : (lo == 0) = false := by simp; omega
    have e2 : (lo == 1) = true := by simp; omega
    have e3 : (hi == 0) = true := by simp; omega
    have e4 : (hi == 1) = false := by simp; omega
    have E1 := Lib.hid e1; have E2 := Lib.hid e2; have E3 := Lib.hid e3; have E4 := Lib.hid e4
    clear h1 g1
    go_enter Tryd.func109, Tryd.ntmps109
    obtain ⟨a0, a1⟩ := aX.out.one
    rw [HY.out] at a0 a1
    have hal : Since y ((y.alloc (.cells #[.int .i64 7, .int .i64 0, .int .i64 lo, .int .i64 hi] 65)).alloc (.cells #[.slice ao n ac, .slice (some ⟨y.heap.size, 0, none⟩) 1 1] 24)) := ((Since.refl _).alloc _).alloc _
    go_upto_region 5 with fail
    clear a0 a1
    rw [← HY.out]
    obtain ⟨a0, a1⟩ := aX.out.one
    go_wp2_with fail
    clear a0 a1
    refine (concat2 _ _ _ xs [⟨7, 0, lo, hi⟩] _ _ (Blk.new (by simp) _ _) (HA.out.since ((hsy.trans hq).trans hal)) ((tok_lit y ⟨7, 0, lo, hi⟩ HTI.out).since ((Since.refl _).alloc _)) rfl (by simp; omega)).mono ?_
    rintro e u1 ⟨v, rfl, ho, hs1⟩
    obtain ⟨ro, N, rc, hN, rfl⟩ := ho.lenN
    have hqe := (hq.trans hal).trans hs1
    have HO := Lib.hid (ho.mono (Nat.le_trans hsy.size ((hq.trans hal)).size))
    clear ho
    obtain ⟨r0, r1⟩ := (BR.out.since hqe).one
    have HR : Hid (OwnK w.heap.size u1 (.slice ro N rc) (repX xs lo hi)) := by
      rw [show repX xs lo hi = (xs ++ [⟨7, 0, lo, hi⟩]) from by unfold repX; rw [E1.out, E2.out, E3.out, E4.out]; rfl]; exact HO.out
    clear HO
    go_wp2_with fail
    refine bodyPost_ret (v := .agg #[.slice ro N rc]) (by simp [results, Tryd.results109, go_sem, *]) rfl ?_
    exact xout_boxT HR.out (hsy.trans hqe) (BR.out.since hqe) (by decide) (by omega) _
  · have e1 : (lo == 0) = false := by simp; omega
    have e2 : (lo == 1) = true := by simp; omega
    have e3 : (hi == 0) = false := by simp; omega
    have e4 : (hi == 1) = true := by simp; omega
    have E1 := Lib.hid e1; have E2 := Lib.hid e2; have E3 := Lib.hid e3; have E4 := Lib.hid e4
    clear h1 g1
    go_enter Tryd.func109, Tryd.ntmps109
    obtain ⟨a0, a1⟩ := aX.out.one
    rw [HY.out] at a0 a1
    go_wp2_with fail
    clear a0 a1
    rw [← HY.out]
    refine (copyExpr_any _ xs _ ⟨_, rfl, HA.out.since (hsy.trans hq)⟩ hl1).mono ?_
    rintro e u1 ⟨v, rfl, ⟨b, rfl, ho, _⟩, hs1⟩
    obtain ⟨ro, N, rc, hN, rfl⟩ := ho.lenN
    have hqe := hq.trans hs1
    have HO := Lib.hid (ho.mono (Nat.le_trans hsy.size (hq).size))
    clear ho
    obtain ⟨r0, r1⟩ := (BR.out.since hqe).one
    have HR : Hid (OwnK w.heap.size u1 (.slice ro N rc) (repX xs lo hi)) := by
      rw [show repX xs lo hi = xs from by unfold repX; rw [E1.out, E2.out, E3.out, E4.out]; rfl]; exact HO.out
    clear HO
    go_wp2_with fail
    refine bodyPost_ret (v := .agg #[.slice ro N rc]) (by simp [results, Tryd.results109, go_sem, *]) rfl ?_
    exact xout_boxT HR.out (hsy.trans hqe) (BR.out.since hqe) (by decide) (by omega) _
  · have e1 : (lo == 0) = false := by simp; omega
    have e2 : (lo == 1) = true := by simp; omega
    have e3 : (hi == 0) = false := by simp; omega
    have e4 : (hi == 1) = false := by simp; omega
    have E1 := Lib.hid e1; have E2 := Lib.hid e2; have E3 := Lib.hid e3; have E4 := Lib.hid e4
    clear h1 g1
    go_enter Tryd.func109, Tryd.ntmps109
    obtain ⟨a0, a1⟩ := aX.out.one
    rw [HY.out] at a0 a1
    have hal : Since y ((y.alloc (.cells #[.int .i64 7, .int .i64 0, .int .i64 lo, .int .i64 hi] 65)).alloc (.cells #[.slice ao n ac, .slice (some ⟨y.heap.size, 0, none⟩) 1 1] 24)) := ((Since.refl _).alloc _).alloc _
    go_upto_region 5 with fail
    clear a0 a1
    rw [← HY.out]
    obtain ⟨a0, a1⟩ := aX.out.one
    go_wp2_with fail
    clear a0 a1
    refine (concat2 _ _ _ xs [⟨7, 0, lo, hi⟩] _ _ (Blk.new (by simp) _ _) (HA.out.since ((hsy.trans hq).trans hal)) ((tok_lit y ⟨7, 0, lo, hi⟩ HTI.out).since ((Since.refl _).alloc _)) rfl (by simp; omega)).mono ?_
    rintro e u1 ⟨v, rfl, ho, hs1⟩
    obtain ⟨ro, N, rc, hN, rfl⟩ := ho.lenN
    have hqe := (hq.trans hal).trans hs1
    have HO := Lib.hid (ho.mono (Nat.le_trans hsy.size ((hq.trans hal)).size))
    clear ho
    obtain ⟨r0, r1⟩ := (BR.out.since hqe).one
    have HR : Hid (OwnK w.heap.size u1 (.slice ro N rc) (repX xs lo hi)) := by
      rw [show repX xs lo hi = (xs ++ [⟨7, 0, lo, hi⟩]) from by unfold repX; rw [E1.out, E2.out, E3.out, E4.out]; rfl]; exact HO.out
    clear HO
    go_wp2_with fail
    refine bodyPost_ret (v := .agg #[.slice ro N rc]) (by simp [results, Tryd.results109, go_sem, *]) rfl ?_
    exact xout_boxT HR.out (hsy.trans hqe) (BR.out.since hqe) (by decide) (by omega) _
  · have e1 : (lo == 0) = false := by simp; omega
    have e2 : (lo == 1) = false := by simp; omega
    have e3 : (hi == 0) = true := by simp; omega
    have e4 : (hi == 1) = false := by simp; omega
    have E1 := Lib.hid e1; have E2 := Lib.hid e2; have E3 := Lib.hid e3; have E4 := Lib.hid e4
    clear h1 g1
    go_enter Tryd.func109, Tryd.ntmps109
    obtain ⟨a0, a1⟩ := aX.out.one
    rw [HY.out] at a0 a1
    have hal : Since y ((y.alloc (.cells #[.int .i64 7, .int .i64 0, .int .i64 lo, .int .i64 hi] 65)).alloc (.cells #[.slice ao n ac, .slice (some ⟨y.heap.size, 0, none⟩) 1 1] 24)) := ((Since.refl _).alloc _).alloc _
    go_upto_region 5 with fail
    clear a0 a1
    rw [← HY.out]
    obtain ⟨a0, a1⟩ := aX.out.one
    go_wp2_with fail
    clear a0 a1
    refine (concat2 _ _ _ xs [⟨7, 0, lo, hi⟩] _ _ (Blk.new (by simp) _ _) (HA.out.since ((hsy.trans hq).trans hal)) ((tok_lit y ⟨7, 0, lo, hi⟩ HTI.out).since ((Since.refl _).alloc _)) rfl (by simp; omega)).mono ?_
    rintro e u1 ⟨v, rfl, ho, hs1⟩
    obtain ⟨ro, N, rc, hN, rfl⟩ := ho.lenN
    have hqe := (hq.trans hal).trans hs1
    have HO := Lib.hid (ho.mono (Nat.le_trans hsy.size ((hq.trans hal)).size))
    clear ho
    obtain ⟨r0, r1⟩ := (BR.out.since hqe).one
    have HR : Hid (OwnK w.heap.size u1 (.slice ro N rc) (repX xs lo hi)) := by
      rw [show repX xs lo hi = (xs ++ [⟨7, 0, lo, hi⟩]) from by unfold repX; rw [E1.out, E2.out, E3.out, E4.out]; rfl]; exact HO.out
    clear HO
    go_wp2_with fail
    refine bodyPost_ret (v := .agg #[.slice ro N rc]) (by simp [results, Tryd.results109, go_sem, *]) rfl ?_
    exact xout_boxT HR.out (hsy.trans hqe) (BR.out.since hqe) (by decide) (by omega) _
  · have e1 : (lo == 0) = false := by simp; omega
    have e2 : (lo == 1) = false := by simp; omega
    have e3 : (hi == 0) = false := by simp; omega
    have e4 : (hi == 1) = true := by simp; omega
    have E1 := Lib.hid e1; have E2 := Lib.hid e2; have E3 := Lib.hid e3; have E4 := Lib.hid e4
    clear h1 g1
    go_enter Tryd.func109, Tryd.ntmps109
    obtain ⟨a0, a1⟩ := aX.out.one
    rw [HY.out] at a0 a1
    have hal : Since y ((y.alloc (.cells #[.int .i64 7, .int .i64 0, .int .i64 lo, .int .i64 hi] 65)).alloc (.cells #[.slice ao n ac, .slice (some ⟨y.heap.size, 0, none⟩) 1 1] 24)) := ((Since.refl _).alloc _).alloc _
    go_upto_region 5 with fail
    clear a0 a1
    rw [← HY.out]
    obtain ⟨a0, a1⟩ := aX.out.one
    go_wp2_with fail
    clear a0 a1
    refine (concat2 _ _ _ xs [⟨7, 0, lo, hi⟩] _ _ (Blk.new (by simp) _ _) (HA.out.since ((hsy.trans hq).trans hal)) ((tok_lit y ⟨7, 0, lo, hi⟩ HTI.out).since ((Since.refl _).alloc _)) rfl (by simp; omega)).mono ?_
    rintro e u1 ⟨v, rfl, ho, hs1⟩
    obtain ⟨ro, N, rc, hN, rfl⟩ := ho.lenN
    have hqe := (hq.trans hal).trans hs1
    have HO := Lib.hid (ho.mono (Nat.le_trans hsy.size ((hq.trans hal)).size))
    clear ho
    obtain ⟨r0, r1⟩ := (BR.out.since hqe).one
    have HR : Hid (OwnK w.heap.size u1 (.slice ro N rc) (repX xs lo hi)) := by
      rw [show repX xs lo hi = (xs ++ [⟨7, 0, lo, hi⟩]) from by unfold repX; rw [E1.out, E2.out, E3.out, E4.out]; rfl]; exact HO.out
    clear HO
    go_wp2_with fail
    refine bodyPost_ret (v := .agg #[.slice ro N rc]) (by simp [results, Tryd.results109, go_sem, *]) rfl ?_
    exact xout_boxT HR.out (hsy.trans hqe) (BR.out.since hqe) (by decide) (by omega) _
  · have e1 : (lo == 0) = false := by simp; omega
    have e2 : (lo == 1) = false := by simp; omega
    have e3 : (hi == 0) = false := by simp; omega
    have e4 : (hi == 1) = false := by simp; omega
    have E1 := Lib.hid e1; have E2 := Lib.hid e2; have E3 := Lib.hid e3; have E4 := Lib.hid e4
    clear h1 g1
    go_enter Tryd.func109, Tryd.ntmps109
    obtain ⟨a0, a1⟩ := aX.out.one
    rw [HY.out] at a0 a1
    have hal : Since y ((y.alloc (.cells #[.int .i64 7, .int .i64 0, .int .i64 lo, .int .i64 hi] 65)).alloc (.cells #[.slice ao n ac, .slice (some ⟨y.heap.size, 0, none⟩) 1 1] 24)) := ((Since.refl _).alloc _).alloc _
    go_upto_region 5 with fail
    clear a0 a1
    rw [← HY.out]
    obtain ⟨a0, a1⟩ := aX.out.one
    go_wp2_with fail
    clear a0 a1
    refine (concat2 _ _ _ xs [⟨7, 0, lo, hi⟩] _ _ (Blk.new (by simp) _ _) (HA.out.since ((hsy.trans hq).trans hal)) ((tok_lit y ⟨7, 0, lo, hi⟩ HTI.out).since ((Since.refl _).alloc _)) rfl (by simp; omega)).mono ?_
    rintro e u1 ⟨v, rfl, ho, hs1⟩
    obtain ⟨ro, N, rc, hN, rfl⟩ := ho.lenN
    have hqe := (hq.trans hal).trans hs1
    have HO := Lib.hid (ho.mono (Nat.le_trans hsy.size ((hq.trans hal)).size))
    clear ho
    obtain ⟨r0, r1⟩ := (BR.out.since hqe).one
    have HR : Hid (OwnK w.heap.size u1 (.slice ro N rc) (repX xs lo hi)) := by
      rw [show repX xs lo hi = (xs ++ [⟨7, 0, lo, hi⟩]) from by unfold repX; rw [E1.out, E2.out, E3.out, E4.out]; rfl]; exact HO.out
    clear HO
    go_wp2_with fail
    refine bodyPost_ret (v := .agg #[.slice ro N rc]) (by simp [results, Tryd.results109, go_sem, *]) rfl ?_
    exact xout_boxT HR.out (hsy.trans hqe) (BR.out.since hqe) (by decide) (by omega) _
set_option maxHeartbeats 2000000 in
set_option maxRecDepth 100000 in
theorem specPE8_any (va : Value) (xs : List Tok) (lo hi : Int) (w : World) (ha : ExAt w va xs) (hl1 : xs.length ≤ 1048577) (hlo : InI lo) (hhi : InI hi) :
    Calls Tryd.prog 110 #[va, .int .i64 lo, .int .i64 hi] w (XOut w (repX xs lo hi)) := by
  obtain ⟨a, rfl, ha⟩ := ha
  have HA := Lib.hid ha
  obtain ⟨ao, ac, rfl, HC⟩ := ha.row
  clear ha
  obtain ⟨n, hn⟩ : ∃ n, n = xs.length := ⟨_, rfl⟩
  rw [← hn] at HA ⊢
  have HN := Lib.hid hn
  have hn9 : n ≤ 1048577 := by omega
  clear hn
  clear HC
  obtain ⟨y, hy⟩ : ∃ y, y = (w.alloc (.cells #[.slice ao n ac] 26)).alloc (.cells #[.slice none 0 0] 26) := ⟨_, rfl⟩
  have hsy : Since w y := by rw [hy]; exact ((Since.refl w).alloc _).alloc _
  have aX : Hid (Blk y w.heap.size 26 #[.slice ao n ac]) := by rw [hy]; exact (Blk.new rfl _ _).alloc _
  have BR : Hid (Blk y (w.heap.size + 1) 26 #[.slice none 0 0]) := by rw [hy]; exact Blk.new (by simp) _ _
  have hq := Since.refl y
  have HY := Lib.hid hy
  clear hy
  have HTI : Hid ((⟨7, 0, lo, hi⟩ : Tok).In) := ⟨int_lit 7 (by decide), int_lit 0 (by decide), hlo, hhi⟩
  have h01 : lo = 0 ∨ lo = 1 ∨ (lo ≠ 0 ∧ lo ≠ 1) := by omega
  have g01 : hi = 0 ∨ hi = 1 ∨ (hi ≠ 0 ∧ hi ≠ 1) := by omega
  clear hlo hhi
  rcases h01 with h1 | h1 | h1 <;> rcases g01 with g1 | g1 | g1
  · have e1 : (lo == 0) = true := by simp; omega
    have e2 : (lo == 1) = false := by simp; omega
    have e3 : (hi == 0) = true := by simp; omega
    have e4 : (hi == 1) = false := by simp; omega
    have E1 := Lib.hid e1; have E2 := Lib.hid e2; have E3 := Lib.hid e3; have E4 := Lib.hid e4
    clear h1 g1
    go_enter Tryd.func110, Tryd.ntmps110
    obtain ⟨a0, a1⟩ := aX.out.one
    rw [HY.out] at a0 a1
    go_wp2_with fail
    clear a0 a1
    rw [← HY.out]
    refine (l8Leaf_any 2 _ (by decide)).mono ?_
    rintro e u1 ⟨v, rfl, ⟨b, rfl, ho, _⟩, hs1⟩
    obtain ⟨ro, N, rc, hN, rfl⟩ := ho.lenN
    have hqe := hq.trans hs1
    have HO := Lib.hid (ho.mono (Nat.le_trans hsy.size (hq).size))
    clear ho
    obtain ⟨r0, r1⟩ := (BR.out.since hqe).one
    have HR : Hid (OwnK w.heap.size u1 (.slice ro N rc) (repX xs lo hi)) := by
      rw [show repX xs lo hi = [leafK 2] from by unfold repX; rw [E1.out, E2.out, E3.out, E4.out]; rfl]; exact HO.out
    clear HO
    go_wp2_with fail
    refine bodyPost_ret (v := .agg #[.slice ro N rc]) (by simp [results, Tryd.results110, go_sem, *]) rfl ?_
    exact xout_boxT HR.out (hsy.trans hqe) (BR.out.since hqe) (by decide) (by omega) _
  · have e1 : (lo == 0) = true := by simp; omega
    have e2 : (lo == 1) = false := by simp; omega
    have e3 : (hi == 0) = false := by simp; omega
    have e4 : (hi == 1) = true := by simp; omega
    have E1 := Lib.hid e1; have E2 := Lib.hid e2; have E3 := Lib.hid e3; have E4 := Lib.hid e4
    clear h1 g1
    go_enter Tryd.func110, Tryd.ntmps110
    obtain ⟨a0, a1⟩ := aX.out.one
    rw [HY.out] at a0 a1
    go_wp2_with fail
    clear a0 a1
    rw [← HY.out]
    refine (l8Copy_any _ xs _ (HA.out.since (hsy.trans hq)) (by omega)).mono ?_
    rintro e w1 ⟨v1, rfl, ⟨c, rfl, ho, _⟩, hs1⟩
    obtain ⟨co, cc, rfl⟩ := ho.len
    have hs1y := hq.trans hs1
    have HO1 := Lib.hid (ho.mono hq.size)
    clear ho
    have hX : y.heap.size ≤ w1.heap.size := hs1y.size
    obtain ⟨N1, hN1⟩ : ∃ N, N = (xs).length := ⟨_, rfl⟩
    rw [← hN1] at HO1 ⊢
    have HN1 := Lib.hid hN1
    clear hN1
    have hs2 := hs1y.alloc (.cells #[.slice co N1 cc] 26)
    have BX2 := Lib.hid (Blk.new (w := w1) rfl 26 #[.slice co N1 cc])
    have HO2 := Lib.hid (HO1.out.since ((Since.refl w1).alloc (.cells #[.slice co N1 cc] 26)))
    go_upto_region 6 with fail
    generalize w1.alloc (.cells #[.slice co N1 cc] 26) = w2 at hs2 BX2 HO2 ⊢
    clear HO1
    obtain ⟨p0, q0⟩ := BX2.out.one
    have hal2 : Since w2 (w2.alloc (.cells #[.int .i64 7, .int .i64 0, .int .i64 lo, .int .i64 hi] 65)) := (Since.refl _).alloc _
    go_upto_region 7 with (at_builtin; go_must (refine wpList_app rfl (.tmp 28) (.tmp 32) rfl y.heap.size co N1 cc xs rfl (HO2.out.since hal2) _ _ _ rfl [⟨7, 0, lo, hi⟩] (tok_lit w2 ⟨7, 0, lo, hi⟩ HTI.out) (by simp; omega) (hs2.trans hal2).size ?_); intro do3 N3 dc3 v3 hN3 ho3 hk3; have BY3 := Lib.hid ((BX2.out.since hal2).keep hk3 (by decide)); obtain ⟨t0, u0⟩ := BY3.out.one)
    have HP3 := Lib.hid ho3
    have ht3 : Since y v3 := (hs2.trans hal2).keepK hk3
    clear ho3 hk3 t0 u0 p0 q0 
    have hs3 := ht3.setCell (a := ⟨w1.heap.size, 0, none⟩) hX (.slice do3 N3 dc3)
    have BX3 := Lib.hid (BY3.out.set 0 (.slice do3 N3 dc3))
    have HO3 := Lib.hid (HP3.out.farT BY3.out (by decide) 0 (.slice do3 N3 dc3))
    generalize v3.setCell ⟨w1.heap.size, 0, none⟩ (.slice do3 N3 dc3) = w3 at hs3 BX3 HO3 ⊢
    clear BY3 HP3 ht3
    obtain ⟨p0, q0⟩ := BX3.out.one
    obtain ⟨r0, s0⟩ := (BR.out.since hs3).one
    go_wp2
    refine bodyPost_ret (v := .agg #[.slice do3 N3 dc3]) (by simp [results, Tryd.results110, go_sem, *]) rfl ?_
    have HR : Hid (OwnK w.heap.size w3 (.slice do3 N3 dc3) (repX xs lo hi)) := by rw [show repX xs lo hi = (xs ++ [⟨7, 0, lo, hi⟩]) from by unfold repX; rw [E1.out, E2.out, E3.out, E4.out]; rfl]; have := HO3.out.mono hsy.size; first | exact this | simpa using this
    exact xout_boxT HR.out (hsy.trans hs3) (BR.out.since hs3) (by decide) (by omega) _
  · have e1 : (lo == 0) = true := by simp; omega
    have e2 : (lo == 1) = false := by simp; omega
    have e3 : (hi == 0) = false := by simp; omega
    have e4 : (hi == 1) = false := by simp; omega
    have E1 := Lib.hid e1; have E2 := Lib.hid e2; have E3 := Lib.hid e3; have E4 := Lib.hid e4
    clear h1 g1
    go_enter Tryd.func110, Tryd.ntmps110
    obtain ⟨a0, a1⟩ := aX.out.one
    rw [HY.out] at a0 a1
    go_wp2_with fail
    clear a0 a1
    rw [← HY.out]
    refine (l8Copy_any _ xs _ (HA.out.since (hsy.trans hq)) (by omega)).mono ?_
    rintro e w1 ⟨v1, rfl, ⟨c, rfl, ho, _⟩, hs1⟩
    obtain ⟨co, cc, rfl⟩ := ho.len
    have hs1y := hq.trans hs1
    have HO1 := Lib.hid (ho.mono hq.size)
    clear ho
    have hX : y.heap.size ≤ w1.heap.size := hs1y.size
    obtain ⟨N1, hN1⟩ : ∃ N, N = (xs).length := ⟨_, rfl⟩
    rw [← hN1] at HO1 ⊢
    have HN1 := Lib.hid hN1
    clear hN1
    have hs2 := hs1y.alloc (.cells #[.slice co N1 cc] 26)
    have BX2 := Lib.hid (Blk.new (w := w1) rfl 26 #[.slice co N1 cc])
    have HO2 := Lib.hid (HO1.out.since ((Since.refl w1).alloc (.cells #[.slice co N1 cc] 26)))
    go_upto_region 6 with fail
    generalize w1.alloc (.cells #[.slice co N1 cc] 26) = w2 at hs2 BX2 HO2 ⊢
    clear HO1
    obtain ⟨p0, q0⟩ := BX2.out.one
    have hal2 : Since w2 (w2.alloc (.cells #[.int .i64 7, .int .i64 0, .int .i64 lo, .int .i64 hi] 65)) := (Since.refl _).alloc _
    go_upto_region 7 with (at_builtin; go_must (refine wpList_app rfl (.tmp 28) (.tmp 32) rfl y.heap.size co N1 cc xs rfl (HO2.out.since hal2) _ _ _ rfl [⟨7, 0, lo, hi⟩] (tok_lit w2 ⟨7, 0, lo, hi⟩ HTI.out) (by simp; omega) (hs2.trans hal2).size ?_); intro do3 N3 dc3 v3 hN3 ho3 hk3; have BY3 := Lib.hid ((BX2.out.since hal2).keep hk3 (by decide)); obtain ⟨t0, u0⟩ := BY3.out.one)
    have HP3 := Lib.hid ho3
    have ht3 : Since y v3 := (hs2.trans hal2).keepK hk3
    clear ho3 hk3 t0 u0 p0 q0 
    have hs3 := ht3.setCell (a := ⟨w1.heap.size, 0, none⟩) hX (.slice do3 N3 dc3)
    have BX3 := Lib.hid (BY3.out.set 0 (.slice do3 N3 dc3))
    have HO3 := Lib.hid (HP3.out.farT BY3.out (by decide) 0 (.slice do3 N3 dc3))
    generalize v3.setCell ⟨w1.heap.size, 0, none⟩ (.slice do3 N3 dc3) = w3 at hs3 BX3 HO3 ⊢
    clear BY3 HP3 ht3
    obtain ⟨p0, q0⟩ := BX3.out.one
    obtain ⟨r0, s0⟩ := (BR.out.since hs3).one
    go_wp2
    refine bodyPost_ret (v := .agg #[.slice do3 N3 dc3]) (by simp [results, Tryd.results110, go_sem, *]) rfl ?_
    have HR : Hid (OwnK w.heap.size w3 (.slice do3 N3 dc3) (repX xs lo hi)) := by rw [show repX xs lo hi = (xs ++ [⟨7, 0, lo, hi⟩]) from by unfold repX; rw [E1.out, E2.out, E3.out, E4.out]; rfl]; have := HO3.out.mono hsy.size; first | exact this | simpa using this
    exact xout_boxT HR.out (hsy.trans hs3) (BR.out.since hs3) (by decide) (by omega) _
  · have e1 : (lo == 0) = false := by simp; omega
    have e2 : (lo == 1) = true := by simp; omega
    have e3 : (hi == 0) = true := by simp; omega
    have e4 : (hi == 1) = false := by simp; omega
    have E1 := Lib.hid e1; have E2 := Lib.hid e2; have E3 := Lib.hid e3; have E4 := Lib.hid e4
    clear h1 g1
    go_enter Tryd.func110, Tryd.ntmps110
    obtain ⟨a0, a1⟩ := aX.out.one
    rw [HY.out] at a0 a1
    go_wp2_with fail
    clear a0 a1
    rw [← HY.out]
    refine (l8Copy_any _ xs _ (HA.out.since (hsy.trans hq)) (by omega)).mono ?_
    rintro e w1 ⟨v1, rfl, ⟨c, rfl, ho, _⟩, hs1⟩
    obtain ⟨co, cc, rfl⟩ := ho.len
    have hs1y := hq.trans hs1
    have HO1 := Lib.hid (ho.mono hq.size)
    clear ho
    have hX : y.heap.size ≤ w1.heap.size := hs1y.size
    obtain ⟨N1, hN1⟩ : ∃ N, N = (xs).length := ⟨_, rfl⟩
    rw [← hN1] at HO1 ⊢
    have HN1 := Lib.hid hN1
    clear hN1
    have hs2 := hs1y.alloc (.cells #[.slice co N1 cc] 26)
    have BX2 := Lib.hid (Blk.new (w := w1) rfl 26 #[.slice co N1 cc])
    have HO2 := Lib.hid (HO1.out.since ((Since.refl w1).alloc (.cells #[.slice co N1 cc] 26)))
    go_upto_region 6 with fail
    generalize w1.alloc (.cells #[.slice co N1 cc] 26) = w2 at hs2 BX2 HO2 ⊢
    clear HO1
    obtain ⟨p0, q0⟩ := BX2.out.one
    have hal2 : Since w2 (w2.alloc (.cells #[.int .i64 7, .int .i64 0, .int .i64 lo, .int .i64 hi] 65)) := (Since.refl _).alloc _
    go_upto_region 7 with (at_builtin; go_must (refine wpList_app rfl (.tmp 28) (.tmp 32) rfl y.heap.size co N1 cc xs rfl (HO2.out.since hal2) _ _ _ rfl [⟨7, 0, lo, hi⟩] (tok_lit w2 ⟨7, 0, lo, hi⟩ HTI.out) (by simp; omega) (hs2.trans hal2).size ?_); intro do3 N3 dc3 v3 hN3 ho3 hk3; have BY3 := Lib.hid ((BX2.out.since hal2).keep hk3 (by decide)); obtain ⟨t0, u0⟩ := BY3.out.one)
    have HP3 := Lib.hid ho3
    have ht3 : Since y v3 := (hs2.trans hal2).keepK hk3
    clear ho3 hk3 t0 u0 p0 q0 
    have hs3 := ht3.setCell (a := ⟨w1.heap.size, 0, none⟩) hX (.slice do3 N3 dc3)
    have BX3 := Lib.hid (BY3.out.set 0 (.slice do3 N3 dc3))
    have HO3 := Lib.hid (HP3.out.farT BY3.out (by decide) 0 (.slice do3 N3 dc3))
    generalize v3.setCell ⟨w1.heap.size, 0, none⟩ (.slice do3 N3 dc3) = w3 at hs3 BX3 HO3 ⊢
    clear BY3 HP3 ht3
    obtain ⟨p0, q0⟩ := BX3.out.one
    obtain ⟨r0, s0⟩ := (BR.out.since hs3).one
    go_wp2
    refine bodyPost_ret (v := .agg #[.slice do3 N3 dc3]) (by simp [results, Tryd.results110, go_sem, *]) rfl ?_
    have HR : Hid (OwnK w.heap.size w3 (.slice do3 N3 dc3) (repX xs lo hi)) := by rw [show repX xs lo hi = (xs ++ [⟨7, 0, lo, hi⟩]) from by unfold repX; rw [E1.out, E2.out, E3.out, E4.out]; rfl]; have := HO3.out.mono hsy.size; first | exact this | simpa using this
    exact xout_boxT HR.out (hsy.trans hs3) (BR.out.since hs3) (by decide) (by omega) _
  · have e1 : (lo == 0) = false := by simp; omega
    have e2 : (lo == 1) = true := by simp; omega
    have e3 : (hi == 0) = false := by simp; omega
    have e4 : (hi == 1) = true := by simp; omega
    have E1 := Lib.hid e1; have E2 := Lib.hid e2; have E3 := Lib.hid e3; have E4 := Lib.hid e4
    clear h1 g1
    go_enter Tryd.func110, Tryd.ntmps110
    obtain ⟨a0, a1⟩ := aX.out.one
    rw [HY.out] at a0 a1
    go_wp2_with fail
    clear a0 a1
    rw [← HY.out]
    refine (l8Copy_any _ xs _ (HA.out.since (hsy.trans hq)) (by omega)).mono ?_
    rintro e u1 ⟨v, rfl, ⟨b, rfl, ho, _⟩, hs1⟩
    obtain ⟨ro, N, rc, hN, rfl⟩ := ho.lenN
    have hqe := hq.trans hs1
    have HO := Lib.hid (ho.mono (Nat.le_trans hsy.size (hq).size))
    clear ho
    obtain ⟨r0, r1⟩ := (BR.out.since hqe).one
    have HR : Hid (OwnK w.heap.size u1 (.slice ro N rc) (repX xs lo hi)) := by
      rw [show repX xs lo hi = xs from by unfold repX; rw [E1.out, E2.out, E3.out, E4.out]; rfl]; exact HO.out
    clear HO
    go_wp2_with fail
    refine bodyPost_ret (v := .agg #[.slice ro N rc]) (by simp [results, Tryd.results110, go_sem, *]) rfl ?_
    exact xout_boxT HR.out (hsy.trans hqe) (BR.out.since hqe) (by decide) (by omega) _
  · have e1 : (lo == 0) = false := by simp; omega
    have e2 : (lo == 1) = true := by simp; omega
    have e3 : (hi == 0) = false := by simp; omega
    have e4 : (hi == 1) = false := by simp; omega
    have E1 := Lib.hid e1; have E2 := Lib.hid e2; have E3 := Lib.hid e3; have E4 := Lib.hid e4
    clear h1 g1
    go_enter Tryd.func110, Tryd.ntmps110
    obtain ⟨a0, a1⟩ := aX.out.one
    rw [HY.out] at a0 a1
    go_wp2_with fail
    clear a0 a1
    rw [← HY.out]
    refine (l8Copy_any _ xs _ (HA.out.since (hsy.trans hq)) (by omega)).mono ?_
    rintro e w1 ⟨v1, rfl, ⟨c, rfl, ho, _⟩, hs1⟩
    obtain ⟨co, cc, rfl⟩ := ho.len
    have hs1y := hq.trans hs1
    have HO1 := Lib.hid (ho.mono hq.size)
    clear ho
    have hX : y.heap.size ≤ w1.heap.size := hs1y.size
    obtain ⟨N1, hN1⟩ : ∃ N, N = (xs).length := ⟨_, rfl⟩
    rw [← hN1] at HO1 ⊢
    have HN1 := Lib.hid hN1
    clear hN1
    have hs2 := hs1y.alloc (.cells #[.slice co N1 cc] 26)
    have BX2 := Lib.hid (Blk.new (w := w1) rfl 26 #[.slice co N1 cc])
    have HO2 := Lib.hid (HO1.out.since ((Since.refl w1).alloc (.cells #[.slice co N1 cc] 26)))
    go_upto_region 6 with fail
    generalize w1.alloc (.cells #[.slice co N1 cc] 26) = w2 at hs2 BX2 HO2 ⊢
    clear HO1
    obtain ⟨p0, q0⟩ := BX2.out.one
    have hal2 : Since w2 (w2.alloc (.cells #[.int .i64 7, .int .i64 0, .int .i64 lo, .int .i64 hi] 65)) := (Since.refl _).alloc _
    go_upto_region 7 with (at_builtin; go_must (refine wpList_app rfl (.tmp 28) (.tmp 32) rfl y.heap.size co N1 cc xs rfl (HO2.out.since hal2) _ _ _ rfl [⟨7, 0, lo, hi⟩] (tok_lit w2 ⟨7, 0, lo, hi⟩ HTI.out) (by simp; omega) (hs2.trans hal2).size ?_); intro do3 N3 dc3 v3 hN3 ho3 hk3; have BY3 := Lib.hid ((BX2.out.since hal2).keep hk3 (by decide)); obtain ⟨t0, u0⟩ := BY3.out.one)
    have HP3 := Lib.hid ho3
    have ht3 : Since y v3 := (hs2.trans hal2).keepK hk3
    clear ho3 hk3 t0 u0 p0 q0 
    have hs3 := ht3.setCell (a := ⟨w1.heap.size, 0, none⟩) hX (.slice do3 N3 dc3)
    have BX3 := Lib.hid (BY3.out.set 0 (.slice do3 N3 dc3))
    have HO3 := Lib.hid (HP3.out.farT BY3.out (by decide) 0 (.slice do3 N3 dc3))
    generalize v3.setCell ⟨w1.heap.size, 0, none⟩ (.slice do3 N3 dc3) = w3 at hs3 BX3 HO3 ⊢
    clear BY3 HP3 ht3
    obtain ⟨p0, q0⟩ := BX3.out.one
    obtain ⟨r0, s0⟩ := (BR.out.since hs3).one
    go_wp2
    refine bodyPost_ret (v := .agg #[.slice do3 N3 dc3]) (by simp [results, Tryd.results110, go_sem, *]) rfl ?_
    have HR : Hid (OwnK w.heap.size w3 (.slice do3 N3 dc3) (repX xs lo hi)) := by rw [show repX xs lo hi = (xs ++ [⟨7, 0, lo, hi⟩]) from by unfold repX; rw [E1.out, E2.out, E3.out, E4.out]; rfl]; have := HO3.out.mono hsy.size; first | exact this | simpa using this
    exact xout_boxT HR.out (hsy.trans hs3) (BR.out.since hs3) (by decide) (by omega) _
  · have e1 : (lo == 0) = false := by simp; omega
    have e2 : (lo == 1) = false := by simp; omega
    have e3 : (hi == 0) = true := by simp; omega
    have e4 : (hi == 1) = false := by simp; omega
    have E1 := Lib.hid e1; have E2 := Lib.hid e2; have E3 := Lib.hid e3; have E4 := Lib.hid e4
    clear h1 g1
    go_enter Tryd.func110, Tryd.ntmps110
    obtain ⟨a0, a1⟩ := aX.out.one
    rw [HY.out] at a0 a1
    go_wp2_with fail
    clear a0 a1
    rw [← HY.out]
    refine (l8Copy_any _ xs _ (HA.out.since (hsy.trans hq)) (by omega)).mono ?_
    rintro e w1 ⟨v1, rfl, ⟨c, rfl, ho, _⟩, hs1⟩
    obtain ⟨co, cc, rfl⟩ := ho.len
    have hs1y := hq.trans hs1
    have HO1 := Lib.hid (ho.mono hq.size)
    clear ho
    have hX : y.heap.size ≤ w1.heap.size := hs1y.size
    obtain ⟨N1, hN1⟩ : ∃ N, N = (xs).length := ⟨_, rfl⟩
    rw [← hN1] at HO1 ⊢
    have HN1 := Lib.hid hN1
    clear hN1
    have hs2 := hs1y.alloc (.cells #[.slice co N1 cc] 26)
    have BX2 := Lib.hid (Blk.new (w := w1) rfl 26 #[.slice co N1 cc])
    have HO2 := Lib.hid (HO1.out.since ((Since.refl w1).alloc (.cells #[.slice co N1 cc] 26)))
    go_upto_region 6 with fail
    generalize w1.alloc (.cells #[.slice co N1 cc] 26) = w2 at hs2 BX2 HO2 ⊢
    clear HO1
    obtain ⟨p0, q0⟩ := BX2.out.one
    have hal2 : Since w2 (w2.alloc (.cells #[.int .i64 7, .int .i64 0, .int .i64 lo, .int .i64 hi] 65)) := (Since.refl _).alloc _
    go_upto_region 7 with (at_builtin; go_must (refine wpList_app rfl (.tmp 28) (.tmp 32) rfl y.heap.size co N1 cc xs rfl (HO2.out.since hal2) _ _ _ rfl [⟨7, 0, lo, hi⟩] (tok_lit w2 ⟨7, 0, lo, hi⟩ HTI.out) (by simp; omega) (hs2.trans hal2).size ?_); intro do3 N3 dc3 v3 hN3 ho3 hk3; have BY3 := Lib.hid ((BX2.out.since hal2).keep hk3 (by decide)); obtain ⟨t0, u0⟩ := BY3.out.one)
    have HP3 := Lib.hid ho3
    have ht3 : Since y v3 := (hs2.trans hal2).keepK hk3
    clear ho3 hk3 t0 u0 p0 q0 
    have hs3 := ht3.setCell (a := ⟨w1.heap.size, 0, none⟩) hX (.slice do3 N3 dc3)
    have BX3 := Lib.hid (BY3.out.set 0 (.slice do3 N3 dc3))
    have HO3 := Lib.hid (HP3.out.farT BY3.out (by decide) 0 (.slice do3 N3 dc3))
    generalize v3.setCell ⟨w1.heap.size, 0, none⟩ (.slice do3 N3 dc3) = w3 at hs3 BX3 HO3 ⊢
    clear BY3 HP3 ht3
    obtain ⟨p0, q0⟩ := BX3.out.one
    obtain ⟨r0, s0⟩ := (BR.out.since hs3).one
    go_wp2
    refine bodyPost_ret (v := .agg #[.slice do3 N3 dc3]) (by simp [results, Tryd.results110, go_sem, *]) rfl ?_
    have HR : Hid (OwnK w.heap.size w3 (.slice do3 N3 dc3) (repX xs lo hi)) := by rw [show repX xs lo hi = (xs ++ [⟨7, 0, lo, hi⟩]) from by unfold repX; rw [E1.out, E2.out, E3.out, E4.out]; rfl]; have := HO3.out.mono hsy.size; first | exact this | simpa using this
    exact xout_boxT HR.out (hsy.trans hs3) (BR.out.since hs3) (by decide) (by omega) _
  · have e1 : (lo == 0) = false := by simp; omega
    have e2 : (lo == 1) = false := by simp; omega
    have e3 : (hi == 0) = false := by simp; omega
    have e4 : (hi == 1) = true := by simp; omega
    have E1 := Lib.hid e1; have E2 := Lib.hid e2; have E3 := Lib.hid e3; have E4 := Lib.hid e4
    clear h1 g1
    go_enter Tryd.func110, Tryd.ntmps110
    obtain ⟨a0, a1⟩ := aX.out.one
    rw [HY.out] at a0 a1
    go_wp2_with fail
    clear a0 a1
    rw [← HY.out]
    refine (l8Copy_any _ xs _ (HA.out.since (hsy.trans hq)) (by omega)).mono ?_
    rintro e w1 ⟨v1, rfl, ⟨c, rfl, ho, _⟩, hs1⟩
    obtain ⟨co, cc, rfl⟩ := ho.len
    have hs1y := hq.trans hs1
    have HO1 := Lib.hid (ho.mono hq.size)
    clear ho
    have hX : y.heap.size ≤ w1.heap.size := hs1y.size
    obtain ⟨N1, hN1⟩ : ∃ N, N = (xs).length := ⟨_, rfl⟩
    rw [← hN1] at HO1 ⊢
    have HN1 := Lib.hid hN1
    clear hN1
    have hs2 := hs1y.alloc (.cells #[.slice co N1 cc] 26)
    have BX2 := Lib.hid (Blk.new (w := w1) rfl 26 #[.slice co N1 cc])
    have HO2 := Lib.hid (HO1.out.since ((Since.refl w1).alloc (.cells #[.slice co N1 cc] 26)))
    go_upto_region 6 with fail
    generalize w1.alloc (.cells #[.slice co N1 cc] 26) = w2 at hs2 BX2 HO2 ⊢
    clear HO1
    obtain ⟨p0, q0⟩ := BX2.out.one
    have hal2 : Since w2 (w2.alloc (.cells #[.int .i64 7, .int .i64 0, .int .i64 lo, .int .i64 hi] 65)) := (Since.refl _).alloc _
    go_upto_region 7 with (at_builtin; go_must (refine wpList_app rfl (.tmp 28) (.tmp 32) rfl y.heap.size co N1 cc xs rfl (HO2.out.since hal2) _ _ _ rfl [⟨7, 0, lo, hi⟩] (tok_lit w2 ⟨7, 0, lo, hi⟩ HTI.out) (by simp; omega) (hs2.trans hal2).size ?_); intro do3 N3 dc3 v3 hN3 ho3 hk3; have BY3 := Lib.hid ((BX2.out.since hal2).keep hk3 (by decide)); obtain ⟨t0, u0⟩ := BY3.out.one)
    have HP3 := Lib.hid ho3
    have ht3 : Since y v3 := (hs2.trans hal2).keepK hk3
    clear ho3 hk3 t0 u0 p0 q0 
    have hs3 := ht3.setCell (a := ⟨w1.heap.size, 0, none⟩) hX (.slice do3 N3 dc3)
    have BX3 := Lib.hid (BY3.out.set 0 (.slice do3 N3 dc3))
    have HO3 := Lib.hid (HP3.out.farT BY3.out (by decide) 0 (.slice do3 N3 dc3))
    generalize v3.setCell ⟨w1.heap.size, 0, none⟩ (.slice do3 N3 dc3) = w3 at hs3 BX3 HO3 ⊢
    clear BY3 HP3 ht3
    obtain ⟨p0, q0⟩ := BX3.out.one
    obtain ⟨r0, s0⟩ := (BR.out.since hs3).one
    go_wp2
    refine bodyPost_ret (v := .agg #[.slice do3 N3 dc3]) (by simp [results, Tryd.results110, go_sem, *]) rfl ?_
    have HR : Hid (OwnK w.heap.size w3 (.slice do3 N3 dc3) (repX xs lo hi)) := by rw [show repX xs lo hi = (xs ++ [⟨7, 0, lo, hi⟩]) from by unfold repX; rw [E1.out, E2.out, E3.out, E4.out]; rfl]; have := HO3.out.mono hsy.size; first | exact this | simpa using this
    exact xout_boxT HR.out (hsy.trans hs3) (BR.out.since hs3) (by decide) (by omega) _
  · have e1 : (lo == 0) = false := by simp; omega
    have e2 : (lo == 1) = false := by simp; omega
    have e3 : (hi == 0) = false := by simp; omega
    have e4 : (hi == 1) = false := by simp; omega
    have E1 := Lib.hid e1; have E2 := Lib.hid e2; have E3 := Lib.hid e3; have E4 := Lib.hid e4
    clear h1 g1
    go_enter Tryd.func110, Tryd.ntmps110
    obtain ⟨a0, a1⟩ := aX.out.one
    rw [HY.out] at a0 a1
    go_wp2_with fail
    clear a0 a1
    rw [← HY.out]
    refine (l8Copy_any _ xs _ (HA.out.since (hsy.trans hq)) (by omega)).mono ?_
    rintro e w1 ⟨v1, rfl, ⟨c, rfl, ho, _⟩, hs1⟩
    obtain ⟨co, cc, rfl⟩ := ho.len
    have hs1y := hq.trans hs1
    have HO1 := Lib.hid (ho.mono hq.size)
    clear ho
    have hX : y.heap.size ≤ w1.heap.size := hs1y.size
    obtain ⟨N1, hN1⟩ : ∃ N, N = (xs).length := ⟨_, rfl⟩
    rw [← hN1] at HO1 ⊢
    have HN1 := Lib.hid hN1
    clear hN1
    have hs2 := hs1y.alloc (.cells #[.slice co N1 cc] 26)
    have BX2 := Lib.hid (Blk.new (w := w1) rfl 26 #[.slice co N1 cc])
    have HO2 := Lib.hid (HO1.out.since ((Since.refl w1).alloc (.cells #[.slice co N1 cc] 26)))
    go_upto_region 6 with fail
    generalize w1.alloc (.cells #[.slice co N1 cc] 26) = w2 at hs2 BX2 HO2 ⊢
    clear HO1
    obtain ⟨p0, q0⟩ := BX2.out.one
    have hal2 : Since w2 (w2.alloc (.cells #[.int .i64 7, .int .i64 0, .int .i64 lo, .int .i64 hi] 65)) := (Since.refl _).alloc _
    go_upto_region 7 with (at_builtin; go_must (refine wpList_app rfl (.tmp 28) (.tmp 32) rfl y.heap.size co N1 cc xs rfl (HO2.out.since hal2) _ _ _ rfl [⟨7, 0, lo, hi⟩] (tok_lit w2 ⟨7, 0, lo, hi⟩ HTI.out) (by simp; omega) (hs2.trans hal2).size ?_); intro do3 N3 dc3 v3 hN3 ho3 hk3; have BY3 := Lib.hid ((BX2.out.since hal2).keep hk3 (by decide)); obtain ⟨t0, u0⟩ := BY3.out.one)
    have HP3 := Lib.hid ho3
    have ht3 : Since y v3 := (hs2.trans hal2).keepK hk3
    clear ho3 hk3 t0 u0 p0 q0 
    have hs3 := ht3.setCell (a := ⟨w1.heap.size, 0, none⟩) hX (.slice do3 N3 dc3)
    have BX3 := Lib.hid (BY3.out.set 0 (.slice do3 N3 dc3))
    have HO3 := Lib.hid (HP3.out.farT BY3.out (by decide) 0 (.slice do3 N3 dc3))
    generalize v3.setCell ⟨w1.heap.size, 0, none⟩ (.slice do3 N3 dc3) = w3 at hs3 BX3 HO3 ⊢
    clear BY3 HP3 ht3
    obtain ⟨p0, q0⟩ := BX3.out.one
    obtain ⟨r0, s0⟩ := (BR.out.since hs3).one
    go_wp2
    refine bodyPost_ret (v := .agg #[.slice do3 N3 dc3]) (by simp [results, Tryd.results110, go_sem, *]) rfl ?_
    have HR : Hid (OwnK w.heap.size w3 (.slice do3 N3 dc3) (repX xs lo hi)) := by rw [show repX xs lo hi = (xs ++ [⟨7, 0, lo, hi⟩]) from by unfold repX; rw [E1.out, E2.out, E3.out, E4.out]; rfl]; have := HO3.out.mono hsy.size; first | exact this | simpa using this
    exact xout_boxT HR.out (hsy.trans hs3) (BR.out.since hs3) (by decide) (by omega) _
end Go.Proofs.YtiojgahjfndmdaaDoor
