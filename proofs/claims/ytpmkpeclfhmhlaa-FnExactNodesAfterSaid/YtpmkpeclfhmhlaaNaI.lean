/- NodesAfter, the program's. -/
import Derived.Test.YtpmkpeclfhmhlaaNaS
import Derived.Test.YtpmkpeclfhmhlaaK3
namespace Go.Proofs.Ytpmkpeclfhmhlaa
set_option maxRecDepth 100000
open Go.ChangeShapes Go.WideShapes Go.ChangeAt Go.RowKit
set_option linter.unusedVariables false
set_option linter.unusedSimpArgs false

set_option maxHeartbeats 1000000 in
set_option maxRecDepth 100000 in
theorem implNA_any (v : Value) (g : Grf) (x y : Int) (w : World) (h : GrfAt w v g) (h1 : g.vs.length ≤ 1048577) (h2 : g.es.length ≤ 1048577) :
    Calls Try.prog 43 #[v, .int .i64 x, .int .i64 y] w (OwnOut w (setL (endsL g x y))) := by
  have HG := Lib.hid h
  obtain ⟨a, b, rfl, ha, hb⟩ := h
  obtain ⟨ao, ac, rfl, _⟩ := ha.row
  obtain ⟨bo, bc, rfl⟩ := hb.len
  clear ha hb
  have HTW : Hid (∀ W, GrfAt W (.agg #[.slice ao g.vs.length ac, .slice bo g.es.length bc]) g → Calls Try.prog 73 #[.agg #[.slice ao g.vs.length ac, .slice bo g.es.length bc], .int .i64 x, .int .i64 y] W (TrOut W (((travG g).filter (kpF x)).filter (kpW y)))) := fun W hu => travWith_any _ g x y W hu h1 h2
  have HSM := Lib.hid (endsL_small g x y)
  have HLN := endsL_len g x y h2
  obtain ⟨zs, hzs⟩ : ∃ zs, zs = endsL g x y := ⟨_, rfl⟩
  rw [← hzs] at HSM HLN ⊢
  unfold endsL at hzs
  generalize ((travG g).filter (kpF x)).filter (kpW y) = ts at HTW hzs
  have HZ := Lib.hid hzs
  have HCS := Lib.hid (compact_sort zs (fun z hz => by have := HSM.out z hz; omega))
  have hl : ts.length = zs.length := by rw [hzs, List.length_map]
  obtain ⟨q, hq⟩ : ∃ q, q = ts.length := ⟨_, rfl⟩
  have HQ := Lib.hid hq
  have hq9 : q ≤ 2097154 := by omega
  clear hzs hq hl
  have hs0 : Since w (w.alloc (.cells #[.slice ao g.vs.length ac, .slice bo g.es.length bc] 30)) := (Since.refl w).alloc _
  go_enter Try.func43, Try.ntmps43
  go_wp2_with fail
  refine (HTW.out _ (HG.out.since hs0)).mono ?_
  rintro en w1 ⟨v1, rfl, ho1, hs1⟩
  obtain ⟨tao, tac, rfl, HX⟩ := ho1.at
  have hs01 := hs0.trans hs1
  rw [← HQ.out]
  clear ho1 hs1 hs0
  have hnil : Own w1.heap.size w1 (.slice none 0 0) [] := ⟨fun z hz => by simp at hz, World.ownsRow_nil _ _ _ _⟩
  go_wp2_with fail
  go_loopw [7, 15] (fun out i wr => ∃ k : Nat, k ≤ q ∧ i = .int .i64 k ∧ Hid (Own w1.heap.size wr out ((ts.take k).map Trv.dst)) ∧ Since w1 wr) (fun _ i _ => q - (intOf i).toNat)
  case atStart => exact ⟨0, Nat.zero_le _, rfl, hnil, Since.refl _⟩
  case round =>
    obtain ⟨k, hk, rfl, HOw, hsw⟩ := hrel
    by_cases hlt : k < q
    · have hx : k < ts.length := by have := HQ.out; omega
      obtain ⟨be, oe, rfl, hbe, d0, d1, d2, d3, d4⟩ := HX.out k hx
      have s1 := since_cells hsw hbe
      rw [← s1] at d0 d1 d2 d3 d4
      clear s1
      have HT := Lib.hid (map_take Trv.dst ts k hx)
      have hzin : InI (ts[k]).dst := by
        have := HSM.out (ts[k]).dst (by rw [HZ.out]; exact List.mem_map_of_mem (List.getElem_mem hx))
        unfold InI; omega
      have hsx := hsw.alloc (.cells #[.int .i64 ts[k].id, .bool ts[k].inv, .int .i64 ts[k].fr, .int .i64 ts[k].dst, .int .i64 ts[k].le] 79)
      have HOx := Lib.hid (HOw.out.since ((Since.refl wr).alloc (.cells #[.int .i64 ts[k].id, .bool ts[k].inv, .int .i64 ts[k].fr, .int .i64 ts[k].dst, .int .i64 ts[k].le] 79)))
      have hzl : ((ts.take k).map Trv.dst).length ≤ 4194304 := by rw [List.length_map, List.length_take]; omega
      have HZL := Lib.hid hzl
      clear hzl
      go_wp2_with (at_builtin; go_must (refine wpList_append_int rfl (.tmp 19) (.tmp 22) rfl _ ((ts.take k).map Trv.dst) (by first | rfl | simp [Act.eval]) HOx.out ts[k].dst (by first | rfl | simp [Act.eval]) hzin HZL.out hsx ?_); intro v2 w2 ho2 hs2; have HO2 := Lib.hid ho2; clear ho2)
      go_roundw
      case rel => exact ⟨k + 1, by omega, by go_num, (by rw [HT.out]; exact HO2.out), hs2⟩
      case measure => simp [intOf]; omega
    · obtain rfl : k = q := by omega
      have HO : Hid (Own w1.heap.size wr u7 zs) := by
        have := HOw.out
        rw [List.take_of_length_le (by have := HQ.out; omega)] at this
        rw [HZ.out]; exact this
      clear HOw
      go_wp2_with fail
      refine (sort_any w1.heap.size _ zs _ HO.out (by omega)).mono ?_
      rintro en w2 ⟨rfl, ho2, hg2⟩
      have hs2 := hsw.grown hg2 (fun j hj => (HO.out.2.lt j hj).1)
      have HO2 := Lib.hid ho2
      have hl2 : (zs.mergeSort fun x y => decide (x ≤ y)).length ≤ 4194304 := by rw [List.length_mergeSort]; omega
      clear ho2 hg2
      go_wp2_with fail
      refine (compact_any w1.heap.size _ _ _ HO2.out hl2).mono ?_
      rintro en w3 ⟨v3, rfl, ho3, hb3⟩
      have HO3 : Hid (Own w.heap.size w3 v3 (setL zs)) := by rw [HCS.out] at ho3; exact ho3.mono hs01.size
      have hs3 : Since w1 w3 := ⟨hb3.os.trans hs2.os, hb3.tape.trans hs2.tape, hb3.output.trans hs2.output, Nat.le_trans hs2.size hb3.size, fun j hj => (hb3.block j hj).trans (hs2.block j hj)⟩
      have hs03 := hs01.trans hs3
      clear ho3 hb3
      go_wp2
      go_ret
      exact ⟨_, rfl, HO3.out, hs03⟩
end Go.Proofs.Ytpmkpeclfhmhlaa
