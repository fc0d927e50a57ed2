/- The laws' helpers on tokens and expressions: copies, sizes, comparisons, marks and checks. -/
import Derived.Test.YthnppgcmmabolaaGreatDoorTok
import Derived.Test.YthnppgcmmabolaaGreatDoorK1
import Derived.Laws.StructEq
namespace Go.Proofs.YthnppgcmmabolaaGreatDoor
set_option maxRecDepth 100000
open Go.ChangeShapes Go.WideShapes Go.ChangeAt Go.RowKit
set_option linter.unusedVariables false
set_option linter.unusedSimpArgs false

def TokOut (w : World) (xs : List Tok) (e : Ending) (w' : World) : Prop := ∃ v, e = .returned v ∧ OwnK w.heap.size w' v xs ∧ Since w w'
/-- What markEdgeS writes: k, k + 1, .. -/
def tokAt (k : Int) (i : Nat) : Tok := ⟨k + 4 * (i : Int), k + 4 * (i : Int) + 1, k + 4 * (i : Int) + 1 + 1, k + 4 * (i : Int) + 1 + 1 + 1⟩
def countEK (k : Int) (n : Nat) : List Tok := (List.range n).map (tokAt k)
theorem countE_lengthK (k : Int) (n : Nat) : (countEK k n).length = n := by simp [countEK]
theorem countE_atK (k : Int) (n i : Nat) (h : i < n) : (countEK k n)[i]'(by rw [countE_lengthK]; exact h) = tokAt k i := by simp [countEK]
theorem countE_inK (k : Int) (n : Nat) (h0 : 0 ≤ k) (h9 : k ≤ 1152921504606846976) (hn : n ≤ 288230376151711744) : ∀ x ∈ countEK k n, x.In := by
  intro x hx
  simp [countEK] at hx
  obtain ⟨i, hi, rfl⟩ := hx
  unfold Tok.In InI tokAt; simp; omega
/-- A row xs of which the first j are written. -/
def markedEK (xs : List Tok) (k : Int) (j : Nat) : List Tok := countEK k j ++ xs.drop j
theorem markedE_zeroK (xs : List Tok) (k : Int) : markedEK xs k 0 = xs := by simp [markedEK, countEK]
theorem markedE_allK (xs : List Tok) (k : Int) : markedEK xs k xs.length = countEK k xs.length := by simp [markedEK]
theorem markedE_lengthK (xs : List Tok) (k : Int) (j : Nat) (h : j ≤ xs.length) : (markedEK xs k j).length = xs.length := by simp [markedEK, countE_lengthK]; omega
theorem markedE_setK (xs : List Tok) (k : Int) (j : Nat) (h : j < xs.length) : (markedEK xs k j).set j (tokAt k j) = markedEK xs k (j + 1) := by
  unfold markedEK
  rw [List.set_append_right _ _ (by simp [countEK]), countE_lengthK, Nat.sub_self, List.drop_eq_getElem_cons h, List.set_cons_zero]
  have : countEK k (j + 1) = countEK k j ++ [tokAt k j] := by simp [countEK, List.range_succ]
  rw [this, List.append_assoc]; rfl
def MarkEOutK (base : Nat) (w : World) (v : Value) (k : Int) (n : Nat) (e : Ending) (w' : World) : Prop :=
  e = .returned (.int .i64 (k + 4 * n)) ∧ OwnK base w' v (countEK k n) ∧ w.grownBy w' v.ownBlock
theorem guard_tok : Tryz.prog.eqGuardType Tryz.prog.depth 42 = false := by kernel_rfl
theorem neq_tok (a b : Tok) (w : World) : (binOp .neq 42 (kv a) (kv b)).run Tryz.prog w = .ok (.bool (!decide (a = b))) w := by
  have u3 := Tryz.underlying3
  have a3 := Tryz.isAgg3
  have z3 := Tryz.sizeOf3
  have hS : Tryz.prog.underlying 42 = some (.struct (Tryz.prog.fieldsOf 42)) := by kernel_rfl
  have hp : Tryz.prog.stoodInHeld 42 = false := by kernel_rfl
  have hd : decide (a = b) = (a.kd == b.kd && a.lr == b.lr && a.lo == b.lo && a.hi == b.hi) := by
    rw [Bool.eq_iff_iff]; simp only [decide_eq_true_eq, Tok.eq_iff, Bool.and_eq_true, beq_iff_eq]
    constructor
    · intro h; exact ⟨⟨⟨h.1, h.2.1⟩, h.2.2.1⟩, h.2.2.2⟩
    · intro h; exact ⟨h.1.1.1, h.1.1.2, h.1.2, h.2⟩
  rw [hd]
  unfold kv
  rw [run_neq_struct, show (10000 : Nat) = 9999 + 1 from rfl, run_equalIn_agg w 9999 42 _ _ hS hp]
  simp only [Program.fieldsOf, Tryz.underlying42]
  go_simp
  by_cases h1 : a.kd = b.kd <;> by_cases h2 : a.lr = b.lr <;> by_cases h3 : a.lo = b.lo <;> by_cases h4 : a.hi = b.hi <;> simp [h1, h2, h3, h4]
set_option maxRecDepth 100000 in
theorem slicesEqual_toks (a b : Value) (xs ys : List Tok) (w : World) (ha : ToksAt w a xs) (hb : ToksAt w b ys) (hl : xs.length ≤ 1152921504606846976) (hl2 : ys.length ≤ 1152921504606846976) :
    Calls Tryz.prog 23 #[a, b] w fun e w' => e = .returned (.bool (decide (xs = ys))) ∧ Since w w' := by
  obtain ⟨ao1, cap1, rfl, HC1⟩ := ha.row
  obtain ⟨ao2, cap2, rfl, HC2⟩ := hb.row
  clear ha hb
  have hge := guard_tok
  by_cases hlen : xs.length = ys.length
  · rw [← hlen]
    obtain ⟨n, hn⟩ : ∃ n, n = xs.length := ⟨_, rfl⟩
    rw [← hn]
    have hn9 : n ≤ 1152921504606846976 := by omega
    have HN := Lib.hid hn
    have HN2 : Hid (n = ys.length) := by rw [hn]; exact hlen
    have HNE : (((n : Nat) : Int) != ((n : Nat) : Int)) = false := by simp
    clear hn hlen hl hl2
    go_enter Tryz.func23, Tryz.ntmps23
    go_wp2
    go_loopw [13] (fun i wr => ∃ k : Nat, k ≤ n ∧ i = .int .i64 k ∧ Hid (xs.take k = ys.take k) ∧ Since w wr) (fun i _ => n - (intOf i).toNat)
    case atStart => exact ⟨0, Nat.zero_le _, rfl, rfl, Since.refl w⟩
    case round =>
      obtain ⟨k, hk, rfl, HT, hsin⟩ := hrel
      by_cases hlt : k < n
      · have hx : k < xs.length := by have := HN.out; omega
        have hy : k < ys.length := by have := HN2.out; omega
        obtain ⟨b1, off1, rfl, hb1, c10, c11, c12, c13⟩ := HC1.out k hx
        obtain ⟨b2, off2, rfl, hb2, c20, c21, c22, c23⟩ := HC2.out k hy
        have s1 := since_cells hsin hb1
        have s2 := since_cells hsin hb2
        rw [← s1] at c10 c11 c12 c13
        rw [← s2] at c20 c21 c22 c23
        clear s1 s2
        have hki : (k : Int) < (n : Int) := by omega
        have hk0 : (0 : Int) ≤ (k : Int) := by omega
        by_cases he : xs[k] = ys[k]
        · have HE := Lib.hid (take_eq_stepEK k hx hy HT.out he)
          have hnq : ∀ W : World, (binOp .neq 42 (kv xs[k]) (kv ys[k])).run Tryz.prog W = .ok (.bool false) W := fun W => by rw [neq_tok, decide_eq_true he]; rfl
          unfold kv at hnq
          clear he
          go_wp2
          go_quiet (fail)
          go_wp2
          go_roundw
          case rel => exact ⟨k + 1, by omega, by go_num, HE, hsin.drewN _⟩
          case measure => simp [intOf]; omega
        · have HE := Lib.hid (show decide (xs = ys) = false from decide_eq_false (ne_of_atEK k hx hy he))
          have hnq : ∀ W : World, (binOp .neq 42 (kv xs[k]) (kv ys[k])).run Tryz.prog W = .ok (.bool true) W := fun W => by rw [neq_tok, decide_eq_false he]; rfl
          unfold kv at hnq
          clear he
          go_wp2
          go_quiet (fail)
          go_wp2
          go_ret
          exact ⟨ret_bool HE.out.symm, hsin.drewN _⟩
      · obtain rfl : k = n := by omega
        have HE : Hid (decide (xs = ys) = true) := by
          have := HT.out
          rw [List.take_of_length_le (by have := HN.out; omega), List.take_of_length_le (by have := HN2.out; omega)] at this
          unfold Hid; simpa using this
        go_wp2
        go_ret
        exact ⟨ret_bool HE.out.symm, hsin⟩
  · have HE : Hid (decide (xs = ys) = false) := by unfold Hid; simp; intro e; rw [e] at hlen; exact hlen rfl
    have hne : ((xs.length : Int) != (ys.length : Int)) = true := by simp; omega
    obtain ⟨n, hn⟩ : ∃ n, n = xs.length := ⟨_, rfl⟩
    obtain ⟨m, hm⟩ : ∃ m, m = ys.length := ⟨_, rfl⟩
    rw [← hn, ← hm] at hne ⊢
    clear hn hm hlen hl hl2 HC1 HC2
    go_enter Tryz.func23, Tryz.ntmps23
    go_wp2
    go_ret
    exact ⟨ret_bool HE.out.symm, Since.refl _⟩
def MarkXOut (lo hi : Nat) (w : World) (v : Value) (k : Int) (x : List Tok) (e : Ending) (w' : World) : Prop :=
  e = .returned (.int .i64 (k + 4 * x.length)) ∧ OwnX lo hi w' v (countEK k x.length) ∧ Within lo hi w w'
theorem szX_small {x : List Tok} {left : Int} (hl : left ≤ 1048576) (h : ¬ szLeft x.length left < 0) : (0 ≤ szLeft x.length left ∧ szLeft x.length left ≤ 1048576) ∧ x.length ≤ 1048577 := by
  unfold szLeft at h ⊢
  by_cases c : left - (x.length : Int) < 0
  · rw [if_pos c] at h; omega
  · rw [if_neg c] at h ⊢; omega

def BoxX (w1 wx : World) (p : Value) (R : List Tok) : Prop :=
  ∃ lo hi B so sc, p = .pointer (some ⟨B, 0, none⟩) ∧ w1.heap.size ≤ lo ∧ w1.heap.size ≤ B ∧ hi ≤ wx.heap.size ∧ (B < lo ∨ hi ≤ B) ∧
    OwnX lo hi wx (.agg #[.slice so R.length sc]) R ∧ Blk wx B 26 #[.slice so R.length sc] ∧ Since w1 wx
theorem OwnX.far1 {lo hi B : Nat} {w : World} {v : Value} {x : List Tok} (h : OwnX lo hi w v x) (hB : B < lo ∨ hi ≤ B) {i : Nat} {u : Value} : OwnX lo hi (w.setCell ⟨B, i, none⟩ u) v x := by
  have k : ∀ (w0 : World) (i : Nat) (u : Value), Within B (B + 1) w0 (w0.setCell ⟨B, i, none⟩ u) := fun w0 i u => Within.cell w0 ⟨B, i, none⟩ u
  exact h.within (k _ i u) (by omega)
theorem boxX_mk {w1 wx : World} {lo hi : Nat} {so : Option Addr} {sc : Nat} {R : List Tok} (B : Nat) (hB : w1.heap.size ≤ B) (h0 : w1.heap.size ≤ lo) (h1 : hi ≤ wx.heap.size ∧ (B < lo ∨ hi ≤ B))
    (hO : OwnX lo hi wx (.agg #[.slice so R.length sc]) R) (hK : Blk wx B 26 #[.slice so R.length sc]) (hS : Since w1 wx) :
    BoxX w1 wx (.pointer (some ⟨B, 0, none⟩)) R := ⟨lo, hi, B, so, sc, rfl, h0, hB, h1.1, h1.2, hO, hK, hS⟩
end Go.Proofs.YthnppgcmmabolaaGreatDoor
