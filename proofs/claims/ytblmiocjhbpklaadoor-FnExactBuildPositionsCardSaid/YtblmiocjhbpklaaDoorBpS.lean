/- Positions that are built in a box: its two rows, what a step leaves alone; links, the model's and the program's. -/
import Derived.Test.YtblmiocjhbpklaaDoorBpM
import Derived.Test.YtblmiocjhbpklaaDoorPs
import Derived.Test.YtblmiocjhbpklaaDoorCnM
namespace Go.Proofs.YtblmiocjhbpklaaDoor
set_option maxRecDepth 100000
open Go.ChangeShapes Go.WideShapes Go.ChangeAt Go.RowKit
set_option linter.unusedVariables false
set_option linter.unusedSimpArgs false

def natI (fo : List Nat) : List Int := fo.map fun (x : Nat) => (x : Int)
theorem natI_len (fo : List Nat) : (natI fo).length = fo.length := by simp [natI]
theorem natI_at (fo : List Nat) (i : Nat) (h : i < fo.length) : (natI fo)[i]'(by rw [natI_len]; exact h) = ((fo[i] : Nat) : Int) := by simp [natI]
theorem natI_set (fo : List Nat) (i x : Nat) : (natI fo).set i (x : Int) = natI (fo.set i x) := by simp [natI, List.map_set]
/-- What a step in the building leaves alone: the blocks below the box, and whatever holds neither ints nor positions. -/
structure KI (G : Nat) (w w' : World) : Prop where
  os : w'.os = w.os
  tape : w'.tape = w.tape
  output : w'.output = w.output
  size : w.heap.size ≤ w'.heap.size
  low : ∀ k, k < w.heap.size → k < G → w'.heap[k]? = w.heap[k]?
  typed : ∀ k cs t, Blk w k t cs → t ≠ 3 → t ≠ 39 → Blk w' k t cs
theorem KI.refl (G : Nat) (w : World) : KI G w w := ⟨rfl, rfl, rfl, Nat.le_refl _, fun _ _ _ => rfl, fun _ _ _ h _ _ => h⟩
theorem KI.trans {G : Nat} {a b c : World} (h : KI G a b) (k : KI G b c) : KI G a c :=
  ⟨k.os.trans h.os, k.tape.trans h.tape, k.output.trans h.output, Nat.le_trans h.size k.size, fun i hi hb => (k.low i (Nat.lt_of_lt_of_le hi h.size) hb).trans (h.low i hi hb), fun i cs t hb h1 h2 => k.typed i cs t (h.typed i cs t hb h1 h2) h1 h2⟩
theorem KI.of_since {G : Nat} {a b : World} (h : Since a b) : KI G a b := ⟨h.os, h.tape, h.output, h.size, fun i hi _ => h.block i hi, fun i cs t hb _ _ => hb.since h⟩
theorem KI.of_drew {G : Nat} {w w' : World} (h : KI G w.drew w') : KI G w w' := ⟨h.os, h.tape, h.output, h.size, h.low, h.typed⟩
theorem KI.since {w0 w w' : World} {G : Nat} (h : Since w0 w) (k : KI G w w') (hG : w0.heap.size ≤ G) : Since w0 w' :=
  ⟨k.os.trans h.os, k.tape.trans h.tape, k.output.trans h.output, Nat.le_trans h.size k.size, fun i hi => (k.low i (Nat.lt_of_lt_of_le hi h.size) (by omega)).trans (h.block i hi)⟩
/-- A cell written in the box, or in a row of ints that lies behind it. -/
theorem KI.set {G X i : Nat} {w : World} {t : TypeId} {cs : Array Value} (hb : Blk w X t cs) (ht : t = 3 ∨ t = 39) (hX : G ≤ X) (u : Value) : KI G w (w.setCell ⟨X, i, none⟩ u) := by
  refine ⟨rfl, rfl, rfl, by simp, fun k _ hk => Below.heap_setCell w ⟨X, i, none⟩ u k (fun e => ?_), fun k ds t' hk h1 h2 => ?_⟩
  · have e : k = X := e
    omega
  · refine hk.far (fun e => ?_) u
    have e : k = X := e
    subst e
    have := hk.symm.trans hb
    injection this with this
    injection this with _ this
    rcases ht with rfl | rfl
    · exact h1 this
    · exact h2 this
theorem KI.grown {G : Nat} {a b : World} {v : Value} {xs : List Int} (h : a.grownBy b v.ownBlock) {base : Nat} (ho : Own base a v xs) (hb : G ≤ base) : KI G a b :=
  ⟨h.os, h.tape, h.output, h.size, fun i hi hk => h.block i hi (fun e => by have := ho.2.lt i e.symm; omega), fun i cs t hk h1 _ => (h.block i hk.lt (fun e => other_type ho.2 hk (fun e => h1 e.symm) e.symm)).trans hk⟩
/-- The box in block G and its rows, which lie behind it. -/
structure BP (G : Nat) (w : World) (lv fv : Value) (ls : List Int) (fo : List Nat) : Prop where
  blk : Blk w G 39 #[lv, .int .i64 0, .int .i64 0, fv, .bool false]
  own1 : Own (G + 1) w lv ls
  own2 : Own (G + 1) w fv (natI fo)
  ap : lv.ownBlock = none ∨ lv.ownBlock ≠ fv.ownBlock
theorem BP.since {G : Nat} {w w' : World} {lv fv : Value} {ls : List Int} {fo : List Nat} (h : BP G w lv fv ls fo) (k : Since w w') : BP G w' lv fv ls fo := ⟨h.blk.since k, h.own1.since k, h.own2.since k, h.ap⟩
theorem Own.keptO {base : Nat} {w w' : World} {v : Value} {xs : List Int} (h : Own base w v xs) {row : Option Nat} (k : w.grownBy w' row) (hr : v.ownBlock = none ∨ v.ownBlock ≠ row) : Own base w' v xs := ⟨h.1, h.2.kept k hr⟩
/-- A letter appended, not yet stored. -/
structure BL (G : Nat) (w : World) (lv fv u : Value) (ls : List Int) (fo : List Nat) : Prop where
  blk : Blk w G 39 #[lv, .int .i64 0, .int .i64 0, fv, .bool false]
  own1 : Own (G + 1) w u ls
  own2 : Own (G + 1) w fv (natI fo)
  ap : u.ownBlock = none ∨ u.ownBlock ≠ fv.ownBlock
structure BF (G : Nat) (w : World) (lv fv u : Value) (ls : List Int) (fo : List Nat) : Prop where
  blk : Blk w G 39 #[lv, .int .i64 0, .int .i64 0, fv, .bool false]
  own1 : Own (G + 1) w lv ls
  own2 : Own (G + 1) w u (natI fo)
  ap : lv.ownBlock = none ∨ lv.ownBlock ≠ u.ownBlock
theorem BP.appL {G : Nat} {w w' : World} {lv fv u : Value} {ls zs : List Int} {fo : List Nat} (h : BP G w lv fv ls fo) (ho : Own (G + 1) w' u zs) (k : w.grownBy w' lv.ownBlock) (hb : u.ownBlock = lv.ownBlock ∨ u.ownBlock = some w.heap.size) : BL G w' lv fv u zs fo := by
  refine ⟨(k.block G h.blk.lt (fun e => by have := (h.own1.2.lt G e.symm).1; omega)).trans h.blk, ho, h.own2.keptO k ?_, ?_⟩
  · rcases h.ap with e | e
    · rw [e]; cases fv.ownBlock with
      | none => exact .inl rfl
      | some g => exact .inr (by simp)
    · exact .inr (fun e2 => e e2.symm)
  · rcases hb with e | e
    · rw [e]; exact h.ap
    · right; rw [e]; intro e2; have := (h.own2.2.lt _ e2.symm).2; omega
theorem BP.appF {G : Nat} {w w' : World} {lv fv u : Value} {ls : List Int} {fo zs : List Nat} (h : BP G w lv fv ls fo) (ho : Own (G + 1) w' u (natI zs)) (k : w.grownBy w' fv.ownBlock) (hb : u.ownBlock = fv.ownBlock ∨ u.ownBlock = some w.heap.size) : BF G w' lv fv u ls zs := by
  refine ⟨(k.block G h.blk.lt (fun e => by have := (h.own2.2.lt G e.symm).1; omega)).trans h.blk, h.own1.keptO k h.ap, ho, ?_⟩
  rcases hb with e | e
  · rw [e]; exact h.ap
  · cases e3 : lv.ownBlock with
    | none => exact .inl rfl
    | some g =>
      right; rw [e]; intro e2
      have := (h.own1.2.lt g e3).2
      injection e2 with e2
      omega
theorem BL.set {G : Nat} {w : World} {lv fv u : Value} {ls : List Int} {fo : List Nat} (h : BL G w lv fv u ls fo) : BP G (w.setCell ⟨G, 0, none⟩ u) u fv ls fo :=
  ⟨h.blk.set 0 u, h.own1.far (by show G < G + 1; omega) u, h.own2.far (by show G < G + 1; omega) u, h.ap⟩
theorem BF.set {G : Nat} {w : World} {lv fv u : Value} {ls : List Int} {fo : List Nat} (h : BF G w lv fv u ls fo) : BP G (w.setCell ⟨G, 3, none⟩ u) lv u ls fo :=
  ⟨h.blk.set 3 u, h.own1.far (by show G < G + 1; omega) u, h.own2.far (by show G < G + 1; omega) u, h.ap⟩
theorem own_blk {base g N c : Nat} {w : World} {xs : List Int} (h : Own base w (.slice (some ⟨g, 0, none⟩) N c) xs) : ∃ cur, Blk w g 3 cur ∧ base ≤ g := by
  rcases h.2.2 with ⟨e, _⟩ | ⟨g', cap, cur, e, hb, hh, _⟩
  · cases e
  · injection e with e1 e2 e3
    injection e1 with e1
    injection e1 with e1
    subst e1
    exact ⟨cur, hh, hb⟩
theorem own_case {base : Nat} {w : World} {v : Value} {xs : List Int} (h : Own base w v xs) : (v = .slice none 0 0 ∧ xs.length = 0) ∨ ∃ g c, v = .slice (some ⟨g, 0, none⟩) xs.length c ∧ base ≤ g := by
  rcases h.2.2 with ⟨e, e2⟩ | ⟨g', cap, cur, e, hb, hh, _⟩
  · exact .inl ⟨e, e2⟩
  · exact .inr ⟨g', cap, e, hb⟩
theorem grown_setP (w : World) (g i : Nat) (u : Value) : w.grownBy (w.setCell ⟨g, i, none⟩ u) (some g) := ⟨rfl, rfl, rfl, by simp [World.setCell], fun k _ hn => Below.heap_setCell w ⟨g, i, none⟩ u k (fun e => hn (by rw [show k = g from e]))⟩
/-- One place of the follow row is written. -/
theorem BP.setF {G g n c i x : Nat} {w : World} {lv : Value} {ls : List Int} {fo : List Nat} (h : BP G w lv (.slice (some ⟨g, 0, none⟩) n c) ls fo) (hn : fo.length = n) (hx : x < 9223372036854775808) :
    BP G (w.setCell ⟨g, i, none⟩ (.int .i64 (x : Int))) lv (.slice (some ⟨g, 0, none⟩) n c) ls (fo.set i x) ∧ KI G w (w.setCell ⟨g, i, none⟩ (.int .i64 (x : Int))) := by
  obtain ⟨cur, hb, hg⟩ := own_blk h.own2
  refine ⟨⟨h.blk.far (by show G ≠ g; omega) _, ⟨h.own1.1, ?_⟩, ?_, h.ap⟩, KI.set hb (.inl rfl) (by omega) _⟩
  · have k := grown_setP w g i (.int .i64 (x : Int))
    exact h.own1.2.kept k (by
      rcases h.ap with e | e
      · exact .inl e
      · exact .inr e)
  · have := own_set h.own2 (by rw [natI_len]; exact hn) i (x : Int) (by unfold InI; omega)
    rw [natI_set] at this
    exact this
def LinkOut (G : Nat) (w : World) (lv fv : Value) (ls : List Int) (fo : List Nat) (e : Ending) (w' : World) : Prop := e = .returned (.tuple #[]) ∧ BP G w' lv fv ls fo ∧ KI G w w'
set_option maxHeartbeats 1000000 in
set_option maxRecDepth 100000 in
theorem l10Link_any (G a b : Nat) (lv fv : Value) (ls : List Int) (fo : List Nat) (w : World) (h : BP G w lv fv ls fo) (hl : ls.length ≤ 20) (hf : fo.length ≤ 20) (ha : a < 1048576) (hb : b < 1048576) (hs : ∀ f ∈ fo, f < 1048576) :
    Calls Tryd.prog 116 #[.pointer (some ⟨G, 0, none⟩), .int .i64 (a : Int), .int .i64 (b : Int)] w (LinkOut G w lv fv ls (linkN fo a b)) := by
  obtain ⟨n, hn⟩ : ∃ n, n = fo.length := ⟨_, rfl⟩
  have HS := Lib.hid hs
  have HN := Lib.hid hn
  have hn9 : n ≤ 20 := by rw [hn]; exact hf
  clear hs hf
  rcases own_case h.own2 with ⟨rfl, h0⟩ | ⟨g, c, rfl, hg⟩
  · rw [natI_len] at h0
    have e0 : n = 0 := by rw [hn]; exact h0
    have hz : fo = [] := List.eq_nil_of_length_eq_zero h0
    subst hz
    have HB := Lib.hid h
    obtain ⟨⟨p0, p1, p2, p3, p4⟩, _⟩ := HB.out.blk.fiveP
    clear h hn e0 h0
    go_enter Tryd.func116, Tryd.ntmps116
    go_wp2_with fail
    go_loopw [6] (fun i wr => i = .int .i64 0 ∧ wr = w) (fun _ _ => 0)
    case atStart => exact ⟨rfl, rfl⟩
    case round =>
      obtain ⟨rfl, rfl⟩ := hrel
      go_wp2_with fail
      go_end0
      exact ⟨rfl, HB.out, KI.refl _ _⟩
  · rw [natI_len, ← hn] at h ⊢
    have HB : Hid (BP G w lv (.slice (some ⟨g, 0, none⟩) n c) ls (linkK fo a b 0)) := by rw [linkK_zero]; exact h
    clear h hn
    go_enter Tryd.func116, Tryd.ntmps116
    go_wp2_with fail
    go_loopw [6] (fun i wr => ∃ k : Nat, k ≤ n ∧ i = .int .i64 k ∧ Hid (BP G wr lv (.slice (some ⟨g, 0, none⟩) n c) ls (linkK fo a b k)) ∧ Hid (KI G w wr)) (fun i _ => n - (intOf i).toNat)
    case atStart => exact ⟨0, Nat.zero_le _, rfl, HB, KI.refl _ _⟩
    case round =>
      obtain ⟨k, hk, rfl, HR, HK⟩ := hrel
      obtain ⟨wq, hwq⟩ : ∃ W, W = wr := ⟨_, rfl⟩
      subst hwq
      clear HB
      obtain ⟨⟨p0, p1, p2, p3, p4⟩, _⟩ := HR.out.blk.fiveP
      by_cases hlt : k < n
      · have hx : k < fo.length := by have := HN.out; omega
        obtain ⟨f, hfv⟩ : ∃ f, f = fo[k] := ⟨_, rfl⟩
        have hf9 : f < 1048576 := by rw [hfv]; exact HS.out _ (List.getElem_mem hx)
        have hlen : (natI (linkK fo a b k)).length = n := by rw [natI_len, linkK_len]; exact HN.out.symm
        have cf := own_cell HR.out.own2 hlen k (by rw [hlen]; exact hlt)
        rw [natI_at _ _ (by rw [linkK_len]; exact hx), linkK_same fo a b k hx, ← hfv] at cf
        have ff : wq.frozen? ⟨g, k, none⟩ = false := by
          have h2 := HR.out.own2.2
          rw [hlen] at h2
          exact h2.frozenAt k
        obtain ⟨bt, hbt⟩ : ∃ bt, bt = a.testBit k := ⟨_, rfl⟩
        have hk1 : (0 : Int) ≤ (k : Int) := by omega
        have hk2 : (k : Int) < (n : Int) := by omega
        have hk3 : min k 64 = k := by omega
        have HNO : Hid (bt = false → linkK fo a b (k + 1) = linkK fo a b k) := fun e => linkK_no fo a b k (by rw [← hbt]; exact e)
        have HYES : Hid (bt = true → (linkK fo a b k).set k (f ||| b) = linkK fo a b (k + 1)) := fun e => by rw [hfv]; exact linkK_yes fo a b k hx (by rw [← hbt]; exact e)
        have hv9 : f ||| b < 1048576 := Nat.or_lt_two_pow (n := 20) hf9 hb
        have HST := Lib.hid (HR.out.setF (i := k) (x := f ||| b) (by rw [linkK_len]; exact HN.out.symm) (by omega))
        have HOR := Lib.hid (i64_or_nat f b (by omega) (by omega))
        have HT := Lib.hid (bit_test a k (by omega))
        rw [← hbt] at HT
        clear hbt hfv hlen
        have ht := HT.out
        cases bt with
        | false =>
          have HNX : Hid (linkK fo a b (k + 1) = linkK fo a b k) := HNO.out rfl
          clear HNO HYES
          go_wp2_with fail
          clear ht
          go_roundw
          case rel => exact ⟨k + 1, by omega, by go_num, by rw [HNX.out]; exact HR, HK⟩
          case measure => simp [intOf]; omega
        | true =>
          have HQ : Hid (BP G (wq.setCell ⟨g, k, none⟩ (.int .i64 ((f ||| b : Nat) : Int))) lv (.slice (some ⟨g, 0, none⟩) n c) ls (linkK fo a b (k + 1))) := by rw [← HYES.out rfl]; exact HST.out.1
          have HKQ : Hid (KI G w (wq.setCell ⟨g, k, none⟩ (.int .i64 ((f ||| b : Nat) : Int)))) := HK.out.trans HST.out.2
          clear HNO HYES
          go_wp2_with fail
          clear ht
          have hor := HOR.out
          go_region
          clear hor
          go_wp2_with fail
          go_roundw
          case rel => exact ⟨k + 1, by omega, by go_num, by first | exact HQ | exact HQ.out.since (Since.refl _).drew, by first | exact HKQ | exact HKQ.out.trans (KI.of_since (Since.refl _).drew)⟩
          case measure => simp [intOf]; omega
      · obtain rfl : k = n := by omega
        have HF : Hid (BP G wq lv (.slice (some ⟨g, 0, none⟩) k c) ls (linkN fo a b)) := by unfold Hid linkN; rw [← HN.out]; exact HR.out
        go_wp2_with fail
        go_end0
        exact ⟨rfl, HF.out, HK.out⟩
set_option maxHeartbeats 1000000 in
set_option maxRecDepth 100000 in
theorem connect_any (G a b : Nat) (lv fv : Value) (ls : List Int) (fo : List Nat) (w : World) (h : BP G w lv fv ls fo) (hl : ls.length ≤ 20) (hf : fo.length ≤ 20) (ha : a < 1048576) (hb : b < 1048576) (hs : ∀ f ∈ fo, f < 1048576) :
    Calls Tryd.prog 112 #[.pointer (some ⟨G, 0, none⟩), .int .i64 (a : Int), .int .i64 (b : Int)] w (LinkOut G w lv fv ls (linkN fo a b)) := by
  obtain ⟨n, hn⟩ : ∃ n, n = fo.length := ⟨_, rfl⟩
  have HS := Lib.hid hs
  have HN := Lib.hid hn
  have hn9 : n ≤ 20 := by rw [hn]; exact hf
  clear hs hf
  rcases own_case h.own2 with ⟨rfl, h0⟩ | ⟨g, c, rfl, hg⟩
  · rw [natI_len] at h0
    have e0 : n = 0 := by rw [hn]; exact h0
    have hz : fo = [] := List.eq_nil_of_length_eq_zero h0
    subst hz
    have HB := Lib.hid h
    obtain ⟨⟨p0, p1, p2, p3, p4⟩, _⟩ := HB.out.blk.fiveP
    clear h hn e0 h0
    go_enter Tryd.func112, Tryd.ntmps112
    go_wp2_with fail
    go_loopw [12] (fun i wr => i = .int .i64 0 ∧ wr = w) (fun _ _ => 0)
    case atStart => exact ⟨rfl, rfl⟩
    case round =>
      obtain ⟨rfl, rfl⟩ := hrel
      go_wp2_with fail
      go_end0
      exact ⟨rfl, HB.out, KI.refl _ _⟩
  · rw [natI_len, ← hn] at h ⊢
    have HB : Hid (BP G w lv (.slice (some ⟨g, 0, none⟩) n c) ls (linkK fo a b 0)) := by rw [linkK_zero]; exact h
    obtain ⟨⟨p0, p1, p2, p3, p4⟩, _⟩ := HB.out.blk.fiveP
    clear h hn
    go_enter Tryd.func112, Tryd.ntmps112
    go_wp2_with fail
    clear p0 p1 p2 p3 p4
    go_loopw [12] (fun i wr => ∃ k : Nat, k ≤ n ∧ i = .int .i64 k ∧ Hid (BP G wr lv (.slice (some ⟨g, 0, none⟩) n c) ls (linkK fo a b k)) ∧ Hid (KI G w wr)) (fun i _ => n - (intOf i).toNat)
    case atStart => exact ⟨0, Nat.zero_le _, rfl, HB, KI.refl _ _⟩
    case round =>
      obtain ⟨k, hk, rfl, HR, HK⟩ := hrel
      obtain ⟨wq, hwq⟩ : ∃ W, W = wr := ⟨_, rfl⟩
      subst hwq
      clear HB
      obtain ⟨⟨p0, p1, p2, p3, p4⟩, _⟩ := HR.out.blk.fiveP
      by_cases hlt : k < n
      · have hx : k < fo.length := by have := HN.out; omega
        obtain ⟨f, hfv⟩ : ∃ f, f = fo[k] := ⟨_, rfl⟩
        have hf9 : f < 1048576 := by rw [hfv]; exact HS.out _ (List.getElem_mem hx)
        have hlen : (natI (linkK fo a b k)).length = n := by rw [natI_len, linkK_len]; exact HN.out.symm
        have cf := own_cell HR.out.own2 hlen k (by rw [hlen]; exact hlt)
        rw [natI_at _ _ (by rw [linkK_len]; exact hx), linkK_same fo a b k hx, ← hfv] at cf
        have ff : wq.frozen? ⟨g, k, none⟩ = false := by
          have h2 := HR.out.own2.2
          rw [hlen] at h2
          exact h2.frozenAt k
        obtain ⟨bt, hbt⟩ : ∃ bt, bt = a.testBit k := ⟨_, rfl⟩
        have hk1 : (0 : Int) ≤ (k : Int) := by omega
        have hk2 : (k : Int) < (n : Int) := by omega
        have HNO : Hid (bt = false → linkK fo a b (k + 1) = linkK fo a b k) := fun e => linkK_no fo a b k (by rw [← hbt]; exact e)
        have HYES : Hid (bt = true → (linkK fo a b k).set k (f ||| b) = linkK fo a b (k + 1)) := fun e => by rw [hfv]; exact linkK_yes fo a b k hx (by rw [← hbt]; exact e)
        have hv9 : f ||| b < 1048576 := Nat.or_lt_two_pow (n := 20) hf9 hb
        have HST := Lib.hid (HR.out.setF (i := k) (x := f ||| b) (by rw [linkK_len]; exact HN.out.symm) (by omega))
        have HOR := Lib.hid (i64_or_nat f b (by omega) (by omega))
        have HHS : Hid (∀ W, Calls Tryd.prog 72 #[.int .i64 (a : Int), .int .i64 (k : Int)] W fun e w' => e = .returned (.bool bt) ∧ W = w') := fun W => by rw [hbt]; exact has_any a k W (by omega) (by omega)
        clear hbt hfv hlen
        cases bt with
        | false =>
          have HNX : Hid (linkK fo a b (k + 1) = linkK fo a b k) := HNO.out rfl
          clear HNO HYES
          go_wp2_with fail
          refine (HHS.out _).mono ?_
          rintro e wx ⟨rfl, rfl⟩
          go_wp2_with fail
          go_roundw
          case rel => exact ⟨k + 1, by omega, by go_num, by rw [HNX.out]; exact HR, HK⟩
          case measure => simp [intOf]; omega
        | true =>
          have HQ : Hid (BP G (wq.setCell ⟨g, k, none⟩ (.int .i64 ((f ||| b : Nat) : Int))) lv (.slice (some ⟨g, 0, none⟩) n c) ls (linkK fo a b (k + 1))) := by rw [← HYES.out rfl]; exact HST.out.1
          have HKQ : Hid (KI G w (wq.setCell ⟨g, k, none⟩ (.int .i64 ((f ||| b : Nat) : Int)))) := HK.out.trans HST.out.2
          clear HNO HYES
          go_wp2_with fail
          refine (HHS.out _).mono ?_
          rintro e wx ⟨rfl, rfl⟩
          have hor := HOR.out
          go_wp2_with fail
          clear hor
          go_roundw
          case rel => exact ⟨k + 1, by omega, by go_num, HQ, HKQ⟩
          case measure => simp [intOf]; omega
      · obtain rfl : k = n := by omega
        have HF : Hid (BP G wq lv (.slice (some ⟨g, 0, none⟩) k c) ls (linkN fo a b)) := by unfold Hid linkN; rw [← HN.out]; exact HR.out
        go_wp2_with fail
        go_end0
        exact ⟨rfl, HF.out, HK.out⟩
end Go.Proofs.YtblmiocjhbpklaaDoor
