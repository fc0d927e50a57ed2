/- The program's traversals of a graph. -/
import Derived.Test.YtilkheclimammaaTrvE
import Derived.Test.YtilkheclimammaaApp
import Derived.Test.YtilkheclimammaaVgI
namespace Go.Proofs.Ytilkheclimammaa
set_option maxRecDepth 100000
open Go.ChangeShapes Go.WideShapes Go.ChangeAt Go.RowKit
set_option linter.unusedVariables false
set_option linter.unusedSimpArgs false

def travG (g : Grf) : List Trv := if validB g = true then travL g.es else []
theorem travL_take (es : List Edg) (k : Nat) (hk : k < es.length) : travL (es.take (k + 1)) = travL (es.take k) ++ both es[k] := by
  unfold travL; rw [List.take_succ_eq_append_getElem hk, List.flatMap_append, List.flatMap_cons, List.flatMap_nil, List.append_nil]
theorem tcells_both (e : Edg) : tcells (both e) = [.int .i64 e.id, .bool false, .int .i64 e.fr, .int .i64 e.to, .int .i64 (2 * e.lb), .int .i64 e.id, .bool true, .int .i64 e.to, .int .i64 e.fr, .int .i64 (2 * e.lb + 1)] := rfl
/-- append of an array of two, sliced, onto a row of traversals of the call's own. -/
theorem wpList_append_two {w wr : World} {ops : Array Oper} {rest : List Oper} {o : Oper} {a : Act} {Q : Exit → Act → World → Prop} (hgd : o.guard = none) (s x : Operand)
    (ho : o.op = .call { callee := .builtin .append, args := #[s, x], argTypes := #[73, 73] }) (v : Value) (n : Nat) (xs : List Trv) (hn : n = xs.length) (hs : a.eval s = v) (hown : OwnT w.heap.size wr v xs)
    (B c : Nat) (hx : a.eval x = .slice (some ⟨B, 0, none⟩) 2 c) (e : Edg) (hB : Blk wr B 128 #[.int .i64 e.id, .bool false, .int .i64 e.fr, .int .i64 e.to, .int .i64 (2 * e.lb), .int .i64 e.id, .bool true, .int .i64 e.to, .int .i64 e.fr, .int .i64 (2 * e.lb + 1)])
    (hlen : n ≤ 4194304) (hsin : Since w wr)
    (h : ∀ v' w', OwnT w.heap.size w' v' (xs ++ both e) → Since w w' → wpList Try.prog ops Q rest (a.put o.dst v') w') : wpList Try.prog ops Q (o :: rest) a wr := by
  subst hn
  obtain ⟨i0, hi, hz0, hz1, hz2⟩ := info_parts info_trv
  refine wpList_append_own _ hgd s x 73 ho w.heap.size 77 i0 (tv zeroT) 5 40 Try.underlying73 hi hz0 hz1 hz2 rfl (by decide) v xs.length (tcells xs) hs hown ⟨B, 0, none⟩ 2 c (tcells (both e)) hx rfl ?_ (tcells_oneCell _) (by unfold maxLen; omega) (by omega) hsin.size ?_
  · intro j u hj
    rw [add_plain, Nat.zero_add, hB.cell, ← hj, tcells_both, ← Array.getElem?_toList]
  · intro v' w' h1 h2 _
    refine h v' w' ?_ (hsin.grown h2 fun k hk => (hown.lt k hk).1)
    show w'.ownsRow _ _ _ _ (xs ++ both e).length (tcells (xs ++ both e))
    rw [List.length_append, tcells_append]
    exact h1
set_option maxHeartbeats 1000000 in
set_option maxRecDepth 100000 in
theorem trav_any (v : Value) (g : Grf) (w : World) (h : GrfAt w v g) (h1 : g.vs.length ≤ 1048577) (h2 : g.es.length ≤ 1048577) :
    Calls Try.prog 95 #[v] w (TrOut w (travG g)) := by
  have HG := Lib.hid h
  obtain ⟨a, b, rfl, ha, hb⟩ := h
  obtain ⟨ao, ac, rfl, _⟩ := ha.row
  obtain ⟨bo, bc, rfl, HE⟩ := hb.row
  clear ha hb
  obtain ⟨n, hn⟩ : ∃ n, n = g.vs.length := ⟨_, rfl⟩
  obtain ⟨m, hm⟩ : ∃ m, m = g.es.length := ⟨_, rfl⟩
  rw [← hn, ← hm] at HG ⊢
  have hm9 : m ≤ 1048577 := by omega
  have HM := Lib.hid hm
  clear hn hm
  have hs0 : Since w (w.alloc (.cells #[.slice ao n ac, .slice bo m bc] 27)) := (Since.refl w).alloc _
  have B0 : Hid (Blk (w.alloc (.cells #[.slice ao n ac, .slice bo m bc] 27)) w.heap.size 27 #[.slice ao n ac, .slice bo m bc]) := Blk.new rfl _ _
  rcases Bool.eq_false_or_eq_true (validB g) with hv | hv
  · have HV := Lib.hid hv
    have HT : Hid (travG g = travL g.es) := by unfold Hid travG; rw [if_pos hv]
    have HOK : Hid (∀ e ∈ g.es, 0 ≤ e.lb ∧ e.lb ≤ 2) := fun e he => (((validB_iff g).1 hv).2.2.1 e he).2.2.2
    obtain ⟨i0, hi, hz0, hz1, hz2⟩ := info_parts info_trv
    have HZ2 := Lib.hid hz2
    clear hz2 hv
    go_enter Try.func95, Try.ntmps95
    go_wp2_with fail
    refine (implVG_any _ g _ (HG.out.since hs0) h1 h2).mono ?_
    rintro en w1 ⟨rfl, hs1⟩
    rw [HV.out]
    have hs01 := hs0.trans hs1
    have b1 := Lib.hid (B0.out.since hs1)
    obtain ⟨p0, p1, _, _⟩ := b1.out.two
    go_wp2_with (at_make; go_must (refine wpList_make_own _ rfl _ _ 73 rfl w.heap.size 77 i0 (tv zeroT) 5 Try.underlying73 hi hz0 hz1 .i64 .i64 _ (2 * m) rfl rfl (by omega) (by rw [HZ2.out]; omega) (by unfold maxLen; omega) hs01.size ?_); intro w2 hown hgrow; have hs12 : Since w1 w2 := (Since.refl w1).grown hgrow (fun _ h => by simp at h); obtain ⟨p2, p3, _, _⟩ := (b1.out.since hs12).two)
    have hsin : Since w w2 := hs01.trans hs12
    have b2 := Lib.hid (b1.out.since hs12)
    have hown0 : OwnT w.heap.size w2 _ [] := hown
    clear p0 p1 p2 p3 hown hgrow hs12 b1 hs01 B0 hs0
    go_loopw [3, 18] (fun out i wr => ∃ k : Nat, k ≤ m ∧ i = .int .i64 k ∧ Hid (OwnT w.heap.size wr out (travL (g.es.take k))) ∧ Since w wr) (fun _ i _ => m - (intOf i).toNat)
    case atStart => exact ⟨0, Nat.zero_le _, rfl, hown0, hsin⟩
    case round =>
      obtain ⟨k, hk, rfl, hown, hsin⟩ := hrel
      by_cases hlt : k < m
      · have hx : k < g.es.length := by have := HM.out; omega
        obtain ⟨be, oe, rfl, hbe, d0, d1, d2, d3⟩ := HE.out k hx
        have s1 := since_cells hsin hbe
        rw [← s1] at d0 d1 d2 d3
        clear s1
        have HLB := Lib.hid (HOK.out g.es[k] (List.getElem_mem hx))
        have hs2 : Since w (wr.alloc (.cells #[.int .i64 g.es[k].id, .int .i64 g.es[k].fr, .int .i64 g.es[k].to, .int .i64 g.es[k].lb] 108)) := hsin.alloc _
        go_wp2_with fail
        refine (edgeTrav_any g.es[k] _ HLB.out.1 HLB.out.2).mono ?_
        rintro en w3 ⟨rfl, hs3⟩
        have hs4 := hs2.trans hs3
        have hs3' : Since wr w3 := ((Since.refl wr).alloc _).trans hs3
        have BB : Hid (Blk (w3.alloc (.cells #[.int .i64 g.es[k].id, .bool false, .int .i64 g.es[k].fr, .int .i64 g.es[k].to, .int .i64 (2 * g.es[k].lb), .int .i64 g.es[k].id, .bool true, .int .i64 g.es[k].to, .int .i64 g.es[k].fr, .int .i64 (2 * g.es[k].lb + 1)] 128)) w3.heap.size 128 _) := Blk.new rfl _ _
        have HO3 : Hid (OwnT w.heap.size (w3.alloc (.cells #[.int .i64 g.es[k].id, .bool false, .int .i64 g.es[k].fr, .int .i64 g.es[k].to, .int .i64 (2 * g.es[k].lb), .int .i64 g.es[k].id, .bool true, .int .i64 g.es[k].to, .int .i64 g.es[k].fr, .int .i64 (2 * g.es[k].lb + 1)] 128)) u3 (travL (g.es.take k))) := hown.out.since (hs3'.alloc _)
        have HLT : Hid ((travL (g.es.take k)).length = 2 * k) := by unfold Hid; rw [travL_length, List.length_take]; omega
        have HTK := Lib.hid (travL_take g.es k hx)
        have hk9 : 2 * k ≤ 4194304 := by omega
        have hs5 := hs4.alloc (.cells #[.int .i64 g.es[k].id, .bool false, .int .i64 g.es[k].fr, .int .i64 g.es[k].to, .int .i64 (2 * g.es[k].lb), .int .i64 g.es[k].id, .bool true, .int .i64 g.es[k].to, .int .i64 g.es[k].fr, .int .i64 (2 * g.es[k].lb + 1)] 128)
        clear d0 d1 d2 d3 hown hs2 hs3 hs4 hs3' hsin
        go_wp2_with (at_builtin; go_must (refine wpList_append_two rfl (.tmp 24) (.tmp 25) rfl _ (2 * k) _ HLT.out.symm rfl HO3.out w3.heap.size _ rfl g.es[k] BB.out hk9 hs5 ?_); intro v6 w6 ho6 hs6)
        rw [← HTK.out] at ho6
        have HO6 := Lib.hid ho6
        clear ho6
        go_wp2
        go_roundw
        case rel => exact ⟨k + 1, by omega, by go_num, HO6.out, hs6⟩
        case measure => simp [intOf]; omega
      · obtain rfl : k = m := by omega
        have HO : Hid (OwnT w.heap.size wr u3 (travG g)) := by
          have := hown.out
          rw [List.take_of_length_le (by have := HM.out; omega)] at this
          unfold Hid; rw [HT.out]; exact this
        clear hown
        go_wp2
        go_ret
        exact ⟨_, rfl, HO.out, hsin⟩
  · have HV := Lib.hid hv
    have HT : Hid (travG g = []) := by unfold Hid travG; rw [if_neg (by rw [hv]; decide)]
    clear hv
    go_enter Try.func95, Try.ntmps95
    go_wp2_with fail
    refine (implVG_any _ g _ (HG.out.since hs0) h1 h2).mono ?_
    rintro en w1 ⟨rfl, hs1⟩
    rw [HV.out]
    have hs01 := hs0.trans hs1
    go_wp2
    go_ret
    exact ⟨_, rfl, by rw [HT.out]; exact World.ownsRow_nil _ _ _ _, hs01⟩
end Go.Proofs.Ytilkheclimammaa
