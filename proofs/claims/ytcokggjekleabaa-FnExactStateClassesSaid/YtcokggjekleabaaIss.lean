/- Slices of int slices: how they read; the laws' own copies, sizes, comparisons, marks and checks. -/
import Derived.Test.YtcokggjekleabaaBoo
namespace Go.Proofs.Ytcokggjekleabaa
set_option maxRecDepth 100000
open Go.ChangeShapes Go.WideShapes Go.ChangeAt Go.RowKit Go.Joins Go.Deep
set_option linter.unusedVariables false
set_option linter.unusedSimpArgs false

abbrev nilS : Value := .slice none 0 0
theorem info_ints : (Try.prog.info? 30).map (fun i => (i.zero, i.size, i.bytes)) = some (some (.slice none 0 0), 1, 24) := by kernel_rfl
theorem made_intss (n : Nat) : (madeCells (Value.slice none 0 0).cells (n * 1)).toList = List.replicate n nilS := by
  rw [Nat.mul_one]; exact toList_madeCells_one _ n
/-- v is a slice of int slices that reads as xs. -/
def IssAt (w : World) (v : Value) (xs : List (List Int)) : Prop :=
  ∃ ao cap, v = .slice ao xs.length cap ∧ Hid (∀ i (h : i < xs.length), ∃ b off p, ao = some ⟨b, off, none⟩ ∧ b < w.heap.size ∧ w.cell? ⟨b, off + i, none⟩ = some p ∧ IntsAt w p xs[i])
theorem IssAt.since {w w' : World} {v : Value} {xs : List (List Int)} (h : IssAt w v xs) (k : Since w w') : IssAt w' v xs := by
  obtain ⟨ao, cap, rfl, hc⟩ := h
  refine ⟨ao, cap, rfl, fun i hi => ?_⟩
  obtain ⟨b, off, p, e, hb, c0, c1⟩ := hc.out i hi
  exact ⟨b, off, p, e, Nat.lt_of_lt_of_le hb k.size, (Below.cell k (p := ⟨b, off + i, none⟩) hb).trans c0, c1.since k⟩
theorem IssAt.len {w : World} {v : Value} {xs : List (List Int)} (h : IssAt w v xs) : ∃ ao cap, v = .slice ao xs.length cap := by
  obtain ⟨ao, cap, e, _⟩ := h; exact ⟨ao, cap, e⟩
theorem IssAt.nil (w : World) (ao : Option Addr) (cap : Nat) : IssAt w (.slice ao 0 cap) [] := ⟨ao, cap, rfl, fun i hi => by simp at hi⟩
/-- Two values that lie in different blocks (or one in none). -/
def Apart (a b : Value) : Prop := a.ownBlock = none ∨ a.ownBlock ≠ b.ownBlock
theorem Apart.symm {a b : Value} (h : Apart a b) : Apart b a := by
  rcases h with e | e
  · cases hb : b.ownBlock with
    | none => exact .inl hb
    | some q => exact .inr (by rw [hb, e]; simp)
  · exact .inr (fun e2 => e e2.symm)
/-- v is a slice of int slices of the call's own, all in blocks from lo on and below hi, the rows apart. -/
def OwnSS (lo hi : Nat) (w : World) (v : Value) (xs : List (List Int)) : Prop :=
  ∃ ps : List Value, w.ownsRow lo 30 1 v xs.length ps ∧ ps.length = xs.length ∧ InR lo hi v ∧
    (∀ i (h : i < ps.length) (h2 : i < xs.length), Own lo w ps[i] xs[i] ∧ InR lo hi ps[i]) ∧ ∀ i j (hi : i < ps.length) (hj : j < ps.length), i ≠ j → Apart ps[i] ps[j]
section
variable {lo hi : Nat} {w w' : World} {v : Value} {xs : List (List Int)}
theorem OwnSS.at (h : OwnSS lo hi w v xs) : IssAt w v xs := by
  obtain ⟨ps, h1, h2, _, h4, _⟩ := h
  rcases h1.2 with ⟨hv, hn⟩ | ⟨g, cap, cur, rfl, hb, hg, _⟩
  · exact ⟨none, 0, by rw [hv, hn], fun i hi => by omega⟩
  · refine ⟨_, cap, rfl, fun i hi => ⟨g, 0, ps[i], rfl, heap_lt hg, ?_, (h4 i (by omega) hi).1.at⟩⟩
    rw [Nat.zero_add, h1.cellAt i (by omega)]
    simp [h2, hi]
theorem OwnSS.since (h : OwnSS lo hi w v xs) (k : Since w w') : OwnSS lo hi w' v xs := by
  obtain ⟨ps, h1, h2, h3, h4, h5⟩ := h
  exact ⟨ps, row_since h1 k, h2, h3, fun i hi h => ⟨(h4 i hi h).1.since k, (h4 i hi h).2⟩, h5⟩
theorem OwnSS.within {a b : Nat} (h : OwnSS a b w v xs) (k : Within lo hi w w') (hd : b ≤ lo ∨ hi ≤ a) : OwnSS a b w' v xs := by
  obtain ⟨ps, h1, h2, h3, h4, h5⟩ := h
  exact ⟨ps, ownsRow_within h1 h3 k hd, h2, h3, fun i hi h => ⟨(h4 i hi h).1.within (h4 i hi h).2 k hd, (h4 i hi h).2⟩, h5⟩
theorem OwnSS.wider {a b : Nat} (h : OwnSS lo hi w v xs) (ha : a ≤ lo) (hb : hi ≤ b) : OwnSS a b w v xs := by
  obtain ⟨ps, h1, h2, h3, h4, h5⟩ := h
  exact ⟨ps, row_mono h1 ha, h2, h3.mono ha hb, fun i hi h => ⟨(h4 i hi h).1.mono ha, (h4 i hi h).2.mono ha hb⟩, h5⟩
theorem OwnSS.len (h : OwnSS lo hi w v xs) : ∃ ao cap, v = .slice ao xs.length cap := h.at.len
theorem OwnSS.nil (w : World) (lo hi : Nat) : OwnSS lo hi w nilS [] := ⟨[], World.ownsRow_nil _ _ _ _, rfl, fun k hk => by simp [Value.ownBlock] at hk, fun i hi h => by simp at h, fun i j hi hj => by simp at hi⟩
theorem OwnSS.far {B : Nat} (h : OwnSS lo hi w v xs) (hB : B < lo ∨ hi ≤ B) (i : Nat) (u : Value) : OwnSS lo hi (w.setCell ⟨B, i, none⟩ u) v xs := by
  have k : Within B (B + 1) w (w.setCell ⟨B, i, none⟩ u) := ⟨rfl, rfl, rfl, by simp [World.setCell], fun k _ hn => Below.heap_setCell w ⟨B, i, none⟩ u k (by show k ≠ B; omega)⟩
  exact h.within k (by omega)
end
theorem own_block_of {base size n : Nat} {e : TypeId} {w : World} {v : Value} {xs : List Value} (h : w.ownsRow base e size v n xs) : ∀ b, v.ownBlock = some b → ∃ cur fz, w.heap[b]? = some (.cells cur e fz) := by
  intro b hb
  rcases h.2 with ⟨rfl, _⟩ | ⟨g, cap, cur, rfl, _, hg, _⟩
  · simp [Value.ownBlock] at hb
  · simp [Value.ownBlock] at hb
    subst hb
    exact ⟨_, _, hg⟩
/-- A row of ints lies in no block of a row of another type. -/
theorem apart_types {b1 b2 s1 s2 n1 n2 : Nat} {e1 e2 : TypeId} {w : World} {a b : Value} {xs ys : List Value} (h : w.ownsRow b1 e1 s1 a n1 xs) (k : w.ownsRow b2 e2 s2 b n2 ys) (hne : e1 ≠ e2) : Apart a b := by
  cases hb : b.ownBlock with
  | none => exact Apart.symm (.inl hb)
  | some g =>
    obtain ⟨cur, fz, hg⟩ := own_block_of k g hb
    exact .inr (by rw [hb]; exact other_type h hg hne)
/-- All rows' lengths, and the rows themselves. -/
def totS (xs : List (List Int)) : Nat := (xs.map List.length).sum
theorem totS_cons (x : List Int) (xs : List (List Int)) : totS (x :: xs) = x.length + totS xs := by simp [totS]
theorem totS_get : ∀ (xs : List (List Int)) (i : Nat) (h : i < xs.length), (xs[i]).length ≤ totS xs
  | x :: xs, 0, h => by simp [totS]
  | x :: xs, i + 1, h => by have := totS_get xs i (by simpa using h); rw [totS_cons, List.getElem_cons_succ]; omega
theorem totS_take : ∀ (xs : List (List Int)) (i : Nat) (h : i < xs.length), totS (xs.take (i + 1)) = totS (xs.take i) + (xs[i]).length
  | x :: xs, 0, h => by simp [totS]
  | x :: xs, i + 1, h => by
    have := totS_take xs i (by simpa using h)
    rw [List.take_succ_cons, List.take_succ_cons, totS_cons, totS_cons, List.getElem_cons_succ, this]; omega
theorem totS_take_le (xs : List (List Int)) (i : Nat) : totS (xs.take i) ≤ totS xs := by
  unfold totS
  have h : (xs.take i ++ xs.drop i) = xs := List.take_append_drop i xs
  have : (xs.map List.length).sum = ((xs.take i).map List.length).sum + ((xs.drop i).map List.length).sum := by
    rw [← List.sum_append, ← List.map_append, h]
  omega
/-- What a loop that fills a row of int rows has done after k rounds. -/
def FillS (B : Nat) (w wr : World) (n k : Nat) (xs : List (List Int)) : Prop :=
  ∃ ps : List Value, ps.length = k ∧ wr.ownsRow B 30 1 (.slice (some ⟨B, 0, none⟩) n n) n (ps ++ List.replicate (n - k) nilS) ∧
    (∀ i (h : i < ps.length) (h2 : i < xs.length), Own (B + 1) wr ps[i] xs[i]) ∧ (∀ i j (hi : i < ps.length) (hj : j < ps.length), i ≠ j → Apart ps[i] ps[j]) ∧ Since w wr
theorem FillS.zero {w w1 : World} {n : Nat} {xs : List (List Int)} (hown : w1.ownsRow w.heap.size 30 1 (.slice (some ⟨w.heap.size, 0, none⟩) n n) n (madeCells (Value.slice none 0 0).cells (n * 1)).toList) (hs : Since w w1) : FillS w.heap.size w w1 n 0 xs := by
  refine ⟨[], rfl, ?_, fun i h => by simp at h, fun i j h => by simp at h, hs⟩
  rw [made_intss] at hown
  rw [Nat.sub_zero, List.nil_append]; exact hown
theorem FillS.cells {B : Nat} {w wr : World} {n k : Nat} {xs : List (List Int)} (h : FillS B w wr n k xs) (hk : k < n) : wr.cell? ⟨B, k, none⟩ = some nilS ∧ wr.frozen? ⟨B, k, none⟩ = false := by
  obtain ⟨ps, hl, hr, _, _, _⟩ := h
  refine ⟨?_, hr.frozenAt _⟩
  rw [hr.cellAt k (by omega), List.getElem?_append_right (by omega), List.getElem?_replicate, if_pos (by omega)]
theorem FillS.since {B : Nat} {w wr w2 : World} {n k : Nat} {xs : List (List Int)} (h : FillS B w wr n k xs) (hs : Since wr w2) : FillS B w w2 n k xs := by
  obtain ⟨ps, hl, hr, h4, h5, hsw⟩ := h
  exact ⟨ps, hl, row_since hr hs, fun i hi h => (h4 i hi h).since hs, h5, hsw.trans hs⟩
theorem FillS.step {B : Nat} {w wr w2 : World} {n k : Nat} {xs : List (List Int)} {p : Value} (h : FillS B w wr n k xs) (hB : w.heap.size ≤ B) (hB2 : B < wr.heap.size) (hk : k < n) (hkg : k < xs.length) (hs : Since wr w2) (ho : Own wr.heap.size w2 p xs[k]) :
    FillS B w (w2.setCell ⟨B, k, none⟩ p) n (k + 1) xs := by
  obtain ⟨ps, hl, hr, h4, h5, hsw⟩ := h
  have hst := (row_since hr hs).stored k p
  refine ⟨ps ++ [p], by simp [hl], ?_, fun i hi h2 => ?_, fun i j hi hj hne => ?_, (hsw.trans hs).setCell hB _⟩
  · have e : (ps ++ List.replicate (n - k) nilS).set k p = (ps ++ [p]) ++ List.replicate (n - (k + 1)) nilS := by
      rw [List.set_append, if_neg (by omega), hl, Nat.sub_self, show n - k = (n - (k + 1)) + 1 from by omega, List.replicate_succ, List.set_cons_zero, List.append_assoc]; rfl
    rw [← e]; exact hst.1
  · by_cases e : i < ps.length
    · rw [List.getElem_append_left e]
      exact ((h4 i e h2).since hs).far (p := ⟨B, k, none⟩) (Nat.lt_succ_self _) p
    · have e2 : i = k := by simp at hi; omega
      subst e2
      have : (ps ++ [p])[i] = p := by rw [List.getElem_append_right (by omega)]; simp
      rw [this]
      exact (ho.far (p := ⟨B, i, none⟩) hB2 p).mono hB2
  · have key : ∀ i (hi : i < ps.length) (h2 : i < xs.length), Apart ps[i] p := by
      intro i hi h2
      cases e : (ps[i]).ownBlock with
      | none => exact .inl e
      | some g =>
        right
        intro e2
        rw [e] at e2
        have l1 := (h4 i hi h2).2.lt g e
        have l2 := ho.2.lt g e2.symm
        omega
    by_cases e : i < ps.length
    · rw [List.getElem_append_left e]
      by_cases e' : j < ps.length
      · rw [List.getElem_append_left e']; exact h5 i j e e' hne
      · have : (ps ++ [p])[j] = p := by rw [List.getElem_append_right (by omega)]; simp
        rw [this]; exact key i e (by omega)
    · have hi2 : (ps ++ [p])[i] = p := by rw [List.getElem_append_right (by omega)]; simp
      by_cases e' : j < ps.length
      · rw [List.getElem_append_left e', hi2]; exact (key j e' (by omega)).symm
      · simp at hi hj; omega
theorem FillS.done {B : Nat} {w wr : World} {n : Nat} {xs : List (List Int)} (h : FillS B w wr n n xs) (hn : n = xs.length) (hB : w.heap.size ≤ B) : OwnSS w.heap.size wr.heap.size wr (.slice (some ⟨B, 0, none⟩) n n) xs := by
  obtain ⟨ps, hl, hr, h4, h5, hsw⟩ := h
  rw [Nat.sub_self] at hr
  simp only [List.replicate_zero, List.append_nil] at hr
  subst hn
  refine ⟨ps, row_mono hr hB, by omega, fun k hk => ?_, fun i hi h2 => ⟨(h4 i hi h2).mono (by omega), ?_⟩, h5⟩
  · have := hr.lt k hk; omega
  · intro k hk
    have := (h4 i hi h2).2.lt k hk; omega
def SSOut (w : World) (xs : List (List Int)) (e : Ending) (w' : World) : Prop := ∃ v, e = .returned v ∧ OwnSS w.heap.size w'.heap.size w' v xs ∧ Since w w'
set_option maxHeartbeats 1000000 in
set_option maxRecDepth 100000 in
theorem toIntSS_any (v : Value) (xs : List (List Int)) (w : World) (h : IssAt w v xs) (hl : xs.length ≤ 1048577) (hs : totS xs ≤ 1048577) :
    Calls Try.prog 87 #[v] w (SSOut w xs) := by
  obtain ⟨ao, cap0, rfl, HC⟩ := h
  obtain ⟨i0, hi, hz0, hz1, hz2⟩ := info_parts info_ints
  have HZ2 := Lib.hid hz2
  clear hz2
  obtain ⟨n, hn⟩ : ∃ n, n = xs.length := ⟨_, rfl⟩
  rw [← hn]
  have hn9 : n ≤ 1048577 := by omega
  have HN := Lib.hid hn
  have HS := Lib.hid hs
  clear hn hl hs
  go_enter Try.func87, Try.ntmps87
  go_wp2_with (at_make; go_must (refine wpList_make_full _ rfl _ _ 25 rfl w.heap.size 30 i0 (.slice none 0 0) 1 Try.underlying25 hi hz0 hz1 .i64 .i64 _ _ n rfl rfl rfl rfl (by rw [HZ2.out]; omega) (by unfold maxLen; omega) (Nat.le_refl _) ?_); intro w1 hown hgrow)
  have hsin : Since w w1 := (Since.refl w).grown hgrow (fun _ h => by simp at h)
  have hz : w.heap.size + 1 ≤ w1.heap.size := hown.lt w.heap.size rfl |>.2
  have hrow := Lib.hid (FillS.zero (xs := xs) hown hsin)
  clear hown hgrow hsin
  go_loopw [4] (fun i wr => ∃ k : Nat, k ≤ n ∧ i = .int .i64 k ∧ Hid (FillS w.heap.size w wr n k xs) ∧ w.heap.size < wr.heap.size) (fun i _ => n - (intOf i).toNat)
  case atStart => exact ⟨0, Nat.zero_le _, rfl, hrow.out, hz⟩
  case round =>
    obtain ⟨k, hk, rfl, HF, hwz⟩ := hrel
    have hsin : Since w wr := by obtain ⟨_, _, _, _, _, h⟩ := HF.out; exact h
    by_cases hlt : k < n
    · have hx : k < xs.length := by have := HN.out; omega
      obtain ⟨b, off, p, rfl, hb, c0, hg⟩ := HC.out k hx
      obtain ⟨vo, vc, rfl, _⟩ := hg.row
      have s1 := since_cells hsin hb
      rw [← s1] at c0
      clear s1
      have hg2 := Lib.hid (hg.since hsin)
      have hb1 : (xs[k]).length ≤ 1048577 := by have h1 := totS_get xs k hx; have := HS.out; omega
      clear hg
      go_wp2_with fail
      refine (toIntS_any _ xs[k] _ hg2.out hb1).mono ?_
      rintro e w2 ⟨v2, rfl, ho2, hs2⟩
      obtain ⟨xo, xc, rfl⟩ := ho2.len
      have HO2 := Lib.hid ho2
      have hz2 := hs2.size
      obtain ⟨d0, f0⟩ := (HF.out.since hs2).cells hlt
      have HST := Lib.hid (HF.out.step (Nat.le_refl _) hwz hlt hx hs2 HO2.out)
      clear ho2 c0
      go_wp2
      go_roundw
      case rel => exact ⟨k + 1, by omega, by go_num, HST.out, by simp; omega⟩
      case measure => simp [intOf]; omega
    · obtain rfl : k = n := by omega
      have HO := Lib.hid (HF.out.done HN.out (Nat.le_refl _))
      go_wp2
      go_ret
      exact ⟨_, rfl, HO.out, hsin⟩
/-- What the laws' size check leaves, -1 where it fails. -/
def szS (xs : List (List Int)) (left : Int) : Int := if left - (xs.length : Int) - (totS xs : Int) < 0 then -1 else left - (xs.length : Int) - (totS xs : Int)
set_option maxHeartbeats 1000000 in
set_option maxRecDepth 100000 in
theorem szIntSS_any (v : Value) (xs : List (List Int)) (left : Int) (w : World) (h : IssAt w v xs) (hl : xs.length ≤ maxLen) (hl2 : ∀ i (h : i < xs.length), (xs[i]).length ≤ maxLen) (h0 : 0 ≤ left) (h1 : left ≤ 1048576) :
    Calls Try.prog 84 #[v, .int .i64 left] w fun e w' => e = .returned (.int .i64 (szS xs left)) ∧ w = w' := by
  obtain ⟨ao, cap0, rfl, HC⟩ := h
  obtain ⟨n, hn⟩ : ∃ n, n = xs.length := ⟨_, rfl⟩
  rw [← hn]
  have hn9 : n ≤ maxLen := by omega
  unfold maxLen at hn9
  have HN := Lib.hid hn
  have HL := Lib.hid hl2
  clear hn hl hl2
  by_cases hb : left - (n : Int) < 0
  · have HE : Hid (szS xs left = -1) := by unfold Hid szS; rw [if_pos (by have := HN.out; omega)]
    go_enter Try.func84, Try.ntmps84
    go_wp2
    go_ret
    exact ⟨ret_int HE.out.symm, rfl⟩
  · go_enter Try.func84, Try.ntmps84
    go_wp2
    go_loop [1, 5] (fun q i => ∃ k : Nat, k ≤ n ∧ i = .int .i64 k ∧ ∃ r : Int, q = .int .i64 r ∧ 0 ≤ r ∧ r ≤ 1048576 ∧ Hid (r = left - (n : Int) - (totS (xs.take k) : Int))) (fun _ i => n - (intOf i).toNat)
    case atStart => exact ⟨0, Nat.zero_le _, rfl, left - (n : Int), by simp, by omega, by omega, by unfold Hid; simp [totS]⟩
    case round =>
      obtain ⟨k, hk, rfl, r, rfl, hr0, hr1, HR⟩ := hrel
      by_cases hlt : k < n
      · have hx : k < xs.length := by have := HN.out; omega
        obtain ⟨b, off, p, rfl, hbb, c0, hg⟩ := HC.out k hx
        obtain ⟨vo, vc, rfl, _⟩ := hg.row
        have HG := Lib.hid hg
        clear hg
        by_cases hd : r - ((xs[k]).length : Int) < 0
        · have HE : Hid (szLeft (xs[k]).length r = -1) := by unfold Hid szLeft; rw [if_pos hd]
          have HF : Hid (szS xs left = -1) := by
            unfold Hid szS
            have h3 := totS_take xs k hx
            have h4 := totS_take_le xs (k + 1)
            have h5 := HR.out
            have h6 := HN.out
            rw [if_pos (by omega)]
          clear hd
          go_wp2_with fail
          refine (szIntS_any _ xs[k] _ _ HG.out (HL.out k hx) hr0 hr1).mono ?_
          rintro e w1 ⟨rfl, rfl⟩
          rw [HE.out]
          go_wp2
          go_ret
          exact ⟨ret_int HF.out.symm, rfl⟩
        · have HE : Hid (szLeft (xs[k]).length r = r - ((xs[k]).length : Int)) := by unfold Hid szLeft; rw [if_neg hd]
          obtain ⟨r2, hr2⟩ : ∃ r2, r2 = r - ((xs[k]).length : Int) := ⟨_, rfl⟩
          rw [← hr2] at HE hd
          have hr3 : 0 ≤ r2 := by omega
          have hr4 : r2 ≤ 1048576 := by omega
          have HR2 : Hid (r2 = left - (n : Int) - (totS (xs.take (k + 1)) : Int)) := by
            unfold Hid
            have h3 := totS_take xs k hx
            have h5 := HR.out
            omega
          clear hd hr2
          go_wp2_with fail
          refine (szIntS_any _ xs[k] _ _ HG.out (HL.out k hx) hr0 hr1).mono ?_
          rintro e w1 ⟨rfl, rfl⟩
          rw [HE.out]
          go_wp2
          go_round
          case rel => exact ⟨k + 1, by omega, by go_num, r2, rfl, hr3, hr4, HR2⟩
          case measure => simp [intOf]; omega
      · obtain rfl : k = n := by omega
        have HF : Hid (szS xs left = r) := by
          have h5 := HR.out
          have h6 := HN.out
          rw [List.take_of_length_le (by omega)] at h5
          unfold Hid szS
          rw [if_neg (by omega)]; omega
        go_wp2
        go_ret
        exact ⟨ret_int HF.out.symm, rfl⟩
theorem take_eq_stepS {xs ys : List (List Int)} (k : Nat) (h1 : k < xs.length) (h2 : k < ys.length) (h : xs.take k = ys.take k) (he : xs[k] = ys[k]) : xs.take (k + 1) = ys.take (k + 1) := by
  rw [List.take_succ_eq_append_getElem h1, List.take_succ_eq_append_getElem h2, h, he]
set_option maxHeartbeats 1000000 in
set_option maxRecDepth 100000 in
theorem eqIntSS_any (a b : Value) (xs ys : List (List Int)) (w : World) (ha : IssAt w a xs) (hb : IssAt w b ys) (hl : xs.length ≤ 4611686018427387904) (hl2 : ys.length ≤ 4611686018427387904)
    (hx : ∀ i (h : i < xs.length), (xs[i]).length ≤ 4611686018427387904) (hy : ∀ i (h : i < ys.length), (ys[i]).length ≤ 4611686018427387904) :
    Calls Try.prog 78 #[a, b] w fun e w' => e = .returned (.bool (decide (xs = ys))) ∧ Since w w' := by
  obtain ⟨ao1, cap1, rfl, HC1⟩ := ha
  obtain ⟨ao2, cap2, rfl, HC2⟩ := hb
  have HX := Lib.hid hx
  have HY := Lib.hid hy
  clear hx hy
  by_cases hlen : xs.length = ys.length
  · rw [← hlen]
    obtain ⟨n, hn⟩ : ∃ n, n = xs.length := ⟨_, rfl⟩
    rw [← hn]
    have hn9 : n ≤ 4611686018427387904 := by omega
    have HN := Lib.hid hn
    have HN2 : Hid (n = ys.length) := by rw [hn]; exact hlen
    have HNE : (((n : Nat) : Int) != ((n : Nat) : Int)) = false := by simp
    clear hn hlen hl hl2
    go_enter Try.func78, Try.ntmps78
    go_wp2
    go_loopw [5] (fun i wr => ∃ k : Nat, k ≤ n ∧ i = .int .i64 k ∧ Hid (xs.take k = ys.take k) ∧ Since w wr) (fun i _ => n - (intOf i).toNat)
    case atStart => exact ⟨0, Nat.zero_le _, rfl, rfl, Since.refl w⟩
    case round =>
      obtain ⟨k, hk, rfl, HT, hsin⟩ := hrel
      by_cases hlt : k < n
      · have hx : k < xs.length := by have := HN.out; omega
        have hy : k < ys.length := by have := HN2.out; omega
        obtain ⟨b1, off1, p1, rfl, hb1, c1, g1⟩ := HC1.out k hx
        obtain ⟨b2, off2, p2, rfl, hb2, c2, g2⟩ := HC2.out k hy
        obtain ⟨vo1, vc1, rfl, _⟩ := g1.row
        obtain ⟨vo2, vc2, rfl, _⟩ := g2.row
        have h1 := (Below.cell hsin (p := ⟨b1, off1 + k, none⟩) hb1).trans c1
        have h2 := (Below.cell hsin (p := ⟨b2, off2 + k, none⟩) hb2).trans c2
        have G1 := Lib.hid (g1.since hsin)
        have G2 := Lib.hid (g2.since hsin)
        clear c1 c2 g1 g2
        have hki : (k : Int) < (n : Int) := by omega
        have hk0 : (0 : Int) ≤ (k : Int) := by omega
        go_wp2
        by_cases he : xs[k] = ys[k]
        · have HE : Hid (xs.take (k + 1) = ys.take (k + 1)) := take_eq_stepS k hx hy HT.out he
          have HD : Hid (decide (xs[k] = ys[k]) = true) := decide_eq_true he
          clear he
          go_still_tail 8, (by kernel_rfl)
          go_wp2_with fail
          refine (eqIntS_any _ _ xs[k] ys[k] _ (G1.out.since (Since.refl _).drew) (G2.out.since (Since.refl _).drew) (HX.out k hx) (HY.out k hy)).mono ?_
          rintro e w1 ⟨rfl, hs1⟩
          rw [HD.out]
          have hs := hsin.trans (Since.of_drew hs1)
          go_wp2
          go_roundw
          case rel => exact ⟨k + 1, by omega, by go_num, HE, hs⟩
          case measure => simp [intOf]; omega
        · have HE : Hid (decide (xs = ys) = false) := by
            unfold Hid
            refine decide_eq_false ?_
            intro e; subst e; exact he rfl
          have HD : Hid (decide (xs[k] = ys[k]) = false) := decide_eq_false he
          clear he
          go_still_tail 8, (by kernel_rfl)
          go_wp2_with fail
          refine (eqIntS_any _ _ xs[k] ys[k] _ (G1.out.since (Since.refl _).drew) (G2.out.since (Since.refl _).drew) (HX.out k hx) (HY.out k hy)).mono ?_
          rintro e w1 ⟨rfl, hs1⟩
          rw [HD.out]
          have hs := hsin.trans (Since.of_drew hs1)
          go_wp2
          go_ret
          exact ⟨ret_bool HE.out.symm, hs⟩
      · obtain rfl : k = n := by omega
        have HE : Hid (decide (xs = ys) = true) := by
          have := HT.out
          rw [List.take_of_length_le (by have := HN.out; omega), List.take_of_length_le (by have := HN2.out; omega)] at this
          unfold Hid; simpa using this
        go_wp2
        go_ret
        exact ⟨ret_bool HE.out.symm, hsin⟩
  · have HE : Hid (decide (xs = ys) = false) := by unfold Hid; simp; intro e; rw [e] at hlen; exact hlen rfl
    have hne : ((xs.length : Int) != (ys.length : Int)) = true := by simp; omega
    obtain ⟨n, hn⟩ : ∃ n, n = xs.length := ⟨_, rfl⟩
    obtain ⟨m, hm⟩ : ∃ m, m = ys.length := ⟨_, rfl⟩
    clear HC1 HC2
    rw [← hn, ← hm] at hne ⊢
    have hn9 : n ≤ 4611686018427387904 := by omega
    have hm9 : m ≤ 4611686018427387904 := by omega
    clear hn hm hlen hl hl2
    go_enter Try.func78, Try.ntmps78
    go_wp2
    go_ret
    exact ⟨ret_bool HE.out.symm, Since.refl _⟩
/-- What markIntSS writes. -/
def cntSS (k : Int) (xs : List (List Int)) : List (List Int) := (List.range xs.length).map fun (i : Nat) => count (k + (totS (xs.take i) : Int)) (xs[i]?.getD []).length
theorem cntSS_length (k : Int) (xs : List (List Int)) : (cntSS k xs).length = xs.length := by simp [cntSS]
theorem cntSS_at (k : Int) (xs : List (List Int)) (i : Nat) (h : i < xs.length) : (cntSS k xs)[i]'(by rw [cntSS_length]; exact h) = count (k + (totS (xs.take i) : Int)) (xs[i]).length := by simp [cntSS, h]
/-- Blocks of other types than ints are as they were. -/
def KeepI (w w' : World) : Prop := ∀ (g : Nat) (cs : Array Value) (t : TypeId) (fz : Nat × Nat), t ≠ 3 → w.heap[g]? = some (Obj.cells cs t fz) → w'.heap[g]? = some (Obj.cells cs t fz)
theorem KeepI.refl (w : World) : KeepI w w := fun _ _ _ _ _ h => h
theorem KeepI.trans {a b c : World} (h : KeepI a b) (k : KeepI b c) : KeepI a c := fun g cs t fz hn hq => k g cs t fz hn (h g cs t fz hn hq)
theorem KeepI.of_grown {base size n : Nat} {w w' : World} {v : Value} {xs : List Value} (h : w.ownsRow base 3 size v n xs) (k : w.grownBy w' v.ownBlock) : KeepI w w' := by
  intro g cs t fz hn hq
  refine (k.block g (heap_lt hq) ?_).trans hq
  intro e
  obtain ⟨cur, fz2, h2⟩ := own_block_of h g e.symm
  rw [h2] at hq
  injection hq with hq
  injection hq with _ hq
  exact hn hq.symm
theorem KeepI.row {base size n : Nat} {e : TypeId} {w w' : World} {v : Value} {xs : List Value} (k : KeepI w w') (he : e ≠ 3) (h : w.ownsRow base e size v n xs) : w'.ownsRow base e size v n xs := by
  refine ⟨h.1, ?_⟩
  rcases h.2 with h3 | ⟨g, cap, cur, hv, hg, hb, hr⟩
  · exact .inl h3
  · exact .inr ⟨g, cap, cur, hv, hg, k g _ _ _ he hb, hr⟩
/-- A slice of int slices whose rows are marked up to j. -/
def MkS (lo hi : Nat) (w : World) (v : Value) (k : Int) (xs : List (List Int)) (j : Nat) (ps : List Value) : Prop :=
  w.ownsRow lo 30 1 v xs.length ps ∧ ps.length = xs.length ∧ InR lo hi v ∧
    (∀ i (h : i < ps.length) (h2 : i < xs.length), Own lo w ps[i] (if i < j then count (k + (totS (xs.take i) : Int)) (xs[i]).length else xs[i]) ∧ InR lo hi ps[i]) ∧ ∀ i j (hi : i < ps.length) (hj : j < ps.length), i ≠ j → Apart ps[i] ps[j]
theorem MkS.step {lo hi : Nat} {w w' : World} {v : Value} {k : Int} {xs : List (List Int)} {j : Nat} {ps : List Value} (h : MkS lo hi w v k xs j ps) (hj : j < xs.length) (hp : j < ps.length)
    (ho : Own lo w' ps[j] (count (k + (totS (xs.take j) : Int)) (xs[j]).length)) (hg : w.grownBy w' (ps[j]).ownBlock) : MkS lo hi w' v k xs (j + 1) ps := by
  obtain ⟨h1, h2, h3, h4, h5⟩ := h
  refine ⟨h1.kept hg (apart_types h1 (h4 j hp hj).1.2 (by decide)), h2, h3, fun i hi hx => ⟨?_, (h4 i hi hx).2⟩, h5⟩
  by_cases e : i = j
  · subst e
    rw [if_pos (Nat.lt_succ_self _)]; exact ho
  · have h6 := (h4 i hi hx).1
    have h7 : Own lo w' ps[i] (if i < j then count (k + (totS (xs.take i) : Int)) (xs[i]).length else xs[i]) := ⟨h6.1, h6.2.kept hg (h5 i j hi hp e)⟩
    by_cases e2 : i < j
    · rw [if_pos (by omega)]; rw [if_pos e2] at h7; exact h7
    · rw [if_neg (by omega)]; rw [if_neg e2] at h7; exact h7
def MarkSSOut (lo hi : Nat) (w : World) (v : Value) (k : Int) (xs : List (List Int)) (e : Ending) (w' : World) : Prop :=
  e = .returned (.int .i64 (k + totS xs)) ∧ OwnSS lo hi w' v (cntSS k xs) ∧ Within lo hi w w' ∧ KeepI w w'
theorem MkS.done {lo hi : Nat} {w : World} {v : Value} {k : Int} {xs : List (List Int)} {ps : List Value} (h : MkS lo hi w v k xs xs.length ps) : OwnSS lo hi w v (cntSS k xs) := by
  obtain ⟨h1, h2, h3, h4, h5⟩ := h
  refine ⟨ps, by rw [cntSS_length]; exact h1, by rw [cntSS_length]; exact h2, h3, fun i hi hx => ?_, h5⟩
  have hx2 : i < xs.length := by rw [cntSS_length] at hx; exact hx
  rw [cntSS_at k xs i hx2]
  have := h4 i hi hx2
  rw [if_pos hx2] at this
  exact this
set_option maxHeartbeats 1000000 in
set_option maxRecDepth 100000 in
theorem markIntSS_any (lo hi : Nat) (v : Value) (xs : List (List Int)) (k : Int) (w : World) (h : OwnSS lo hi w v xs) (hk0 : 0 ≤ k) (hk9 : k ≤ 100000000) (hl : xs.length ≤ 2097154) (hs : totS xs ≤ 2097154) :
    Calls Try.prog 80 #[v, .int .i64 k] w (MarkSSOut lo hi w v k xs) := by
  obtain ⟨ps, hr, hpl, hin, h4, h5⟩ := h
  have HM0 : Hid (MkS lo hi w v k xs 0 ps) := ⟨hr, hpl, hin, fun i hi hx => by rw [if_neg (by omega)]; exact h4 i hi hx, h5⟩
  have hcase : v = .slice none 0 0 ∧ xs.length = 0 ∨ ∃ g cap, v = .slice (some ⟨g, 0, none⟩) xs.length cap ∧ lo ≤ g := by
    rcases hr.2 with ⟨a, b⟩ | ⟨g, cap, cur, a, b, _⟩
    · exact .inl ⟨a, b⟩
    · exact .inr ⟨g, cap, a, b⟩
  have HT : Hid (∀ j, totS (xs.take j) ≤ 2097154) := fun j => Nat.le_trans (totS_take_le xs j) hs
  have HB : Hid (∀ j (h : j < xs.length), (xs[j]).length ≤ 2097154) := fun j h => Nat.le_trans (totS_get xs j h) hs
  clear hr hin h4 h5 hpl
  obtain ⟨n, hn⟩ : ∃ n, n = xs.length := ⟨_, rfl⟩
  rw [← hn] at hcase
  have hn9 : n ≤ 2097154 := by omega
  have HN := Lib.hid hn
  clear hl hn hs
  rcases hcase with ⟨rfl, hn0⟩ | ⟨G, cap, rfl, hg⟩
  · subst hn0
    have HR : Hid (OwnSS lo hi w (.slice none 0 0) (cntSS k xs) ∧ k + (totS xs : Int) = k) := by
      have h0 : xs = [] := List.eq_nil_of_length_eq_zero HN.out.symm
      subst h0
      exact ⟨OwnSS.nil _ _ _, by simp [totS]⟩
    go_enter Try.func80, Try.ntmps80
    go_wp2
    go_loopw [1, 5] (fun q i wr => q = .int .i64 k ∧ i = .int .i64 0 ∧ wr = w) (fun _ _ _ => 0)
    case atStart => exact ⟨rfl, rfl, rfl⟩
    case round =>
      obtain ⟨rfl, rfl, rfl⟩ := hrel
      go_wp2
      go_ret
      exact ⟨ret_int HR.out.2.symm, HR.out.1, Within.refl _ _ _, KeepI.refl _⟩
  · go_enter Try.func80, Try.ntmps80
    go_wp2
    go_loopw [1, 5] (fun q i wr => ∃ (j : Nat) (z : Int), j ≤ n ∧ i = .int .i64 j ∧ q = .int .i64 z ∧ Hid (z = k + (totS (xs.take j) : Int)) ∧ 0 ≤ z ∧ z ≤ 200000000 ∧ Hid (MkS lo hi wr (.slice (some ⟨G, 0, none⟩) n cap) k xs j ps) ∧ Within lo hi w wr ∧ Hid (KeepI w wr)) (fun _ i _ => n - (intOf i).toNat)
    case atStart => exact ⟨0, k, Nat.zero_le _, rfl, rfl, by unfold Hid; simp [totS], hk0, by omega, HM0.out, Within.refl _ _ _, KeepI.refl _⟩
    case round =>
      obtain ⟨j, z, hj, rfl, rfl, HZ, hz0, hz9, HM, hw, HK⟩ := hrel
      by_cases hlt : j < n
      · have hx : j < xs.length := by have := HN.out; omega
        have hpj : j < ps.length := by have := HM.out.2.1; omega
        obtain ⟨p, hp⟩ : ∃ p, p = ps[j] := ⟨_, rfl⟩
        have d0 : wr.cell? ⟨G, j, none⟩ = some p := by
          have h1 : wr.ownsRow lo 30 1 (.slice (some ⟨G, 0, none⟩) n cap) xs.length ps := HM.out.1
          rw [← HN.out] at h1
          have := h1.cellAt j (by omega)
          rw [this, hp]; simp [hpj]
        have ho := (HM.out.2.2.2.1 j hpj hx).1
        have hri := (HM.out.2.2.2.1 j hpj hx).2
        rw [if_neg (by omega), ← hp] at ho
        rw [← hp] at hri
        have HO := Lib.hid ho
        have HRI := Lib.hid hri
        have HP := Lib.hid hp
        obtain ⟨ao, ac, rfl⟩ := ho.len
        have hm := HB.out j hx
        have ht := HT.out (j + 1)
        have htk : totS (xs.take (j + 1)) = totS (xs.take j) + (xs[j]).length := totS_take xs j hx
        have HTK := Lib.hid htk
        have hz8 : z + ((xs[j]).length : Int) ≤ 200000000 := by have := HZ.out; omega
        clear ho hri hp htk ht
        go_wp2_with fail
        refine (markIntS_any lo _ xs[j] z _ HO.out hz0 (by omega) (by omega)).mono ?_
        rintro en w1 ⟨rfl, ho1, hg1⟩
        have HM2 : Hid (MkS lo hi w1 (.slice (some ⟨G, 0, none⟩) n cap) k xs (j + 1) ps) := by
          refine HM.out.step hx hpj ?_ ?_
          · rw [← HP.out, ← HZ.out]; exact ho1
          · rw [← HP.out]; exact hg1
        have hw2 : Within lo hi w w1 := hw.trans (Within.of_grown hg1 HRI.out)
        have HK2 : Hid (KeepI w w1) := HK.out.trans (KeepI.of_grown HO.out.2 hg1)
        have HZ2 : Hid (z + ((xs[j]).length : Int) = k + (totS (xs.take (j + 1)) : Int)) := by
          unfold Hid; have := HZ.out; have := HTK.out; omega
        obtain ⟨z2, hz2⟩ : ∃ z2, z2 = z + ((xs[j]).length : Int) := ⟨_, rfl⟩
        rw [← hz2] at HZ2 hz8 ⊢
        have hz7 : 0 ≤ z2 := by omega
        clear hz2 ho1 hg1
        go_wp2
        go_roundw
        case rel => exact ⟨j + 1, z2, by omega, by go_num, rfl, HZ2, hz7, hz8, HM2.out, hw2, HK2.out⟩
        case measure => simp [intOf]; omega
      · obtain rfl : j = n := by omega
        have HF : Hid (OwnSS lo hi wr (.slice (some ⟨G, 0, none⟩) j cap) (cntSS k xs)) := by
          have h6 := HM.out
          have e : MkS lo hi wr (.slice (some ⟨G, 0, none⟩) j cap) k xs xs.length ps := by rw [← HN.out]; exact h6
          exact e.done
        have HZ2 : Hid (z = k + (totS xs : Int)) := by
          have := HZ.out
          rw [List.take_of_length_le (by have := HN.out; omega)] at this
          exact this
        go_wp2
        go_ret
        exact ⟨ret_int HZ2.out, HF.out, hw, HK.out⟩
set_option maxHeartbeats 1000000 in
set_option maxRecDepth 100000 in
theorem heldIntSS_any (v : Value) (xs : List (List Int)) (k : Int) (w : World) (h : IssAt w v (cntSS k xs)) (hk0 : 0 ≤ k) (hk9 : k ≤ 100000000) (hl : xs.length ≤ 2097154) (hs : totS xs ≤ 2097154) :
    Calls Try.prog 82 #[v, .int .i64 k] w fun e w' => e = .returned (.int .i64 (k + totS xs)) ∧ w = w' := by
  obtain ⟨ao, cap, rfl, HC⟩ := h
  rw [cntSS_length]
  have HT : Hid (∀ j, totS (xs.take j) ≤ 2097154) := fun j => Nat.le_trans (totS_take_le xs j) hs
  have HB : Hid (∀ j (h : j < xs.length), (xs[j]).length ≤ 2097154) := fun j h => Nat.le_trans (totS_get xs j h) hs
  have HC2 : Hid (∀ i (h : i < xs.length), ∃ b off p, ao = some ⟨b, off, none⟩ ∧ w.cell? ⟨b, off + i, none⟩ = some p ∧ IntsAt w p (count (k + (totS (xs.take i) : Int)) (xs[i]).length)) := by
    intro i hi
    obtain ⟨b, off, p, e, _, c0, c1⟩ := HC.out i (by rw [cntSS_length]; exact hi)
    rw [cntSS_at k xs i hi] at c1
    exact ⟨b, off, p, e, c0, c1⟩
  clear HC
  obtain ⟨n, hn⟩ : ∃ n, n = xs.length := ⟨_, rfl⟩
  rw [← hn]
  have hn9 : n ≤ 2097154 := by omega
  have HN := Lib.hid hn
  clear hl hn hs
  go_enter Try.func82, Try.ntmps82
  go_wp2
  go_loop [1, 5] (fun q i => ∃ (j : Nat) (z : Int), j ≤ n ∧ i = .int .i64 j ∧ q = .int .i64 z ∧ Hid (z = k + (totS (xs.take j) : Int)) ∧ 0 ≤ z ∧ z ≤ 200000000) (fun _ i => n - (intOf i).toNat)
  case atStart => exact ⟨0, k, Nat.zero_le _, rfl, rfl, by unfold Hid; simp [totS], hk0, by omega⟩
  case round =>
    obtain ⟨j, z, hj, rfl, rfl, HZ, hz0, hz9⟩ := hrel
    by_cases hlt : j < n
    · have hx : j < xs.length := by have := HN.out; omega
      obtain ⟨b, off, p, rfl, c0, c1⟩ := HC2.out j hx
      have hm := HB.out j hx
      have ht := HT.out (j + 1)
      have htk : totS (xs.take (j + 1)) = totS (xs.take j) + (xs[j]).length := totS_take xs j hx
      have HTK := Lib.hid htk
      have hz8 : z + ((xs[j]).length : Int) ≤ 200000000 := by have := HZ.out; omega
      rw [← HZ.out] at c1
      have H1 := Lib.hid c1
      obtain ⟨vo, vc, rfl, _⟩ := c1.row
      clear c1 htk ht
      obtain ⟨z2, hz2⟩ : ∃ z2, z2 = z + ((xs[j]).length : Int) := ⟨_, rfl⟩
      have HZ3 := Lib.hid hz2
      have HZ2 : Hid (z2 = k + (totS (xs.take (j + 1)) : Int)) := by
        unfold Hid; have := HZ.out; have := HTK.out; omega
      have hz7 : 0 ≤ z2 := by omega
      rw [← hz2] at hz8
      have hneg : decide (z2 < 0) = false := decide_eq_false (by omega)
      clear hz2
      go_wp2_with fail
      refine (heldIntS_any _ z (xs[j]).length _ H1.out hz0 (by omega) (by omega)).mono ?_
      rintro en w1 ⟨rfl, rfl⟩
      rw [← HZ3.out]
      go_wp2
      go_round
      case rel => exact ⟨j + 1, z2, by omega, by go_num, rfl, HZ2, hz7, hz8⟩
      case measure => simp [intOf]; omega
    · obtain rfl : j = n := by omega
      have HZ2 : Hid (z = k + (totS xs : Int)) := by
        have := HZ.out
        rw [List.take_of_length_le (by have := HN.out; omega)] at this
        exact this
      go_wp2
      go_ret
      exact ⟨ret_int HZ2.out, rfl⟩
end Go.Proofs.Ytcokggjekleabaa
