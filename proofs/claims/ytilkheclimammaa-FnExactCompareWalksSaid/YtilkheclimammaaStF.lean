/- Lists of steps of the model: l4From, StepsFrom, StepsWith. -/
import Derived.Test.YtilkheclimammaaStS
import Derived.Test.YtilkheclimammaaStO
namespace Go.Proofs.Ytilkheclimammaa
set_option maxRecDepth 100000
open Go.ChangeShapes Go.WideShapes Go.ChangeAt Go.RowKit
set_option linter.unusedVariables false
set_option linter.unusedSimpArgs false

def pieceL (x : Int) (e : Edg) : List Stp := (if e.fr = x then [⟨e.id, false⟩] else []) ++ (if e.to = x then [⟨e.id, true⟩] else [])
def fromL (x : Int) (es : List Edg) : List Stp := es.flatMap (pieceL x)
theorem fromL_take (x : Int) (es : List Edg) (k : Nat) (hk : k < es.length) : fromL x (es.take (k + 1)) = fromL x (es.take k) ++ pieceL x es[k] := by
  unfold fromL; rw [List.take_succ_eq_append_getElem hk, List.flatMap_append, List.flatMap_cons, List.flatMap_nil, List.append_nil]
theorem fromL_len (x : Int) (es : List Edg) : (fromL x es).length ≤ es.length * 2 := by
  induction es with
  | nil => simp [fromL]
  | cons e es ih =>
    have h : fromL x (e :: es) = pieceL x e ++ fromL x es := rfl
    rw [h, List.length_append, List.length_cons]
    have : (pieceL x e).length ≤ 2 := by unfold pieceL; split <;> split <;> simp
    omega
theorem fromT_cons (x : Int) (e : Edg) (es : List Edg) : ((travL (e :: es)).filter (kpF x)).map Trv.st = pieceL x e ++ ((travL es).filter (kpF x)).map Trv.st := by
  have h : travL (e :: es) = fwdT e :: invT e :: travL es := rfl
  rw [h]
  unfold pieceL
  by_cases h1 : e.fr = x <;> by_cases h2 : e.to = x
  · rw [List.filter_cons_of_pos (by simp [kpF, fwdT, h1]), List.filter_cons_of_pos (by simp [kpF, invT, h2]), if_pos h1, if_pos h2]; rfl
  · rw [List.filter_cons_of_pos (by simp [kpF, fwdT, h1]), List.filter_cons_of_neg (by simp [kpF, invT, h2]), if_pos h1, if_neg h2]; rfl
  · rw [List.filter_cons_of_neg (by simp [kpF, fwdT, h1]), List.filter_cons_of_pos (by simp [kpF, invT, h2]), if_neg h1, if_pos h2]; rfl
  · rw [List.filter_cons_of_neg (by simp [kpF, fwdT, h1]), List.filter_cons_of_neg (by simp [kpF, invT, h2]), if_neg h1, if_neg h2]; rfl
theorem fromL_eq (x : Int) (es : List Edg) : ((travL es).filter (kpF x)).map Trv.st = fromL x es := by
  induction es with
  | nil => rfl
  | cons e es ih => rw [fromT_cons, ih]; rfl
theorem fromS_valid (g : Grf) (x : Int) (hv : validB g = true) : fromS g x = fromL x g.es := by
  unfold fromS travG; rw [if_pos hv]; exact fromL_eq x g.es
theorem fromS_inval (g : Grf) (x : Int) (hv : validB g = false) : fromS g x = [] := by
  unfold fromS travG; rw [if_neg (by rw [hv]; decide)]; rfl
theorem travL_mem {es : List Edg} {t : Trv} (h : t ∈ travL es) : ∃ e ∈ es, t = fwdT e ∨ t = invT e := by
  unfold travL at h
  obtain ⟨e, he, ht⟩ := List.mem_flatMap.1 h
  refine ⟨e, he, ?_⟩
  simpa [both] using ht
theorem tOf_self {es : List Edg} (hs : es.Pairwise idLt) {t : Trv} (h : t ∈ travL es) : tOf (travL es) t.st = t := by
  induction es with
  | nil => simp [travL] at h
  | cons e es ih =>
    rw [tOf_cons]
    have h2 : t = fwdT e ∨ t = invT e ∨ t ∈ travL es := by
      have : travL (e :: es) = fwdT e :: invT e :: travL es := rfl
      rw [this] at h
      simpa using h
    rcases h2 with rfl | rfl | h2
    · rw [if_pos (by rfl)]; rfl
    · rw [if_pos (by rfl)]; rfl
    · obtain ⟨e', he', ht⟩ := travL_mem h2
      have hlt := List.rel_of_pairwise_cons hs he'
      unfold idLt at hlt
      have hid : t.st.id = e'.id := by rcases ht with rfl | rfl <;> rfl
      rw [if_neg (by rw [hid]; omega)]
      exact ih (List.Pairwise.of_cons hs) h2
theorem withS_eq (g : Grf) (x y : Int) : withS g x y = (fromS g x).filter (fun s => (tOf (travG g) s).le == y) := by
  unfold withS fromS
  rw [List.filter_map]
  congr 1
  apply List.filter_congr
  intro t ht
  have ht' := (List.mem_filter.1 ht).1
  show kpW y t = ((tOf (travG g) t.st).le == y)
  rcases Bool.eq_false_or_eq_true (validB g) with hv | hv
  · have hp := ((validB_iff g).1 hv).2.2.2
    unfold travG at ht' ⊢
    rw [if_pos hv] at ht' ⊢
    rw [tOf_self hp ht']; rfl
  · unfold travG at ht'
    rw [if_neg (by rw [hv]; decide)] at ht'
    simp at ht'
theorem ownSt_lit (w w1 : World) (h : Since w w1) (b : Nat) (hb : b = w1.heap.size) : OwnSt w.heap.size (w1.alloc (.cells #[] 33)) (.slice (some ⟨b, 0, none⟩) 0 0) [] := by
  subst hb; exact World.ownsRow_lit w1 #[] 0 h.size (Nat.zero_le _) rfl
/-- append of one step onto steps of the call's own. -/
theorem wpList_append_st {w wr : World} {ops : Array Oper} {rest : List Oper} {o : Oper} {a : Act} {Q : Exit → Act → World → Prop} (hgd : o.guard = none) (s x : Operand)
    (ho : o.op = .call { callee := .builtin .append, args := #[s, x], argTypes := #[30, 30] }) (v : Value) (xs : List Stp) (hs : a.eval s = v) (hown : OwnSt w.heap.size wr v xs)
    (si : Int) (sb : Bool) (hx : a.eval x = .slice (some ⟨wr.heap.size, 0, none⟩) 1 1) (hlen : xs.length ≤ 4194304) (hsin : Since w wr)
    (h : ∀ v' w', OwnSt w.heap.size w' v' (xs ++ [⟨si, sb⟩]) → Since w w' → wpList Try.prog ops Q rest (a.put o.dst v') w') : wpList Try.prog ops Q (o :: rest) a (wr.alloc (.cells #[.int .i64 si, .bool sb] 33)) := by
  obtain ⟨i0, hi, hz0, hz1, hz2⟩ := info_parts info_step
  have hown' : OwnSt w.heap.size (wr.alloc (.cells #[.int .i64 si, .bool sb] 33)) v xs := hown.since ((Since.refl wr).alloc _)
  have hB : Blk (wr.alloc (.cells #[.int .i64 si, .bool sb] 33)) wr.heap.size 33 #[.int .i64 si, .bool sb] := Blk.new rfl _ _
  refine wpList_append_own _ hgd s x 30 ho w.heap.size 33 i0 (sv zeroS) 2 16 Try.underlying30 hi hz0 hz1 hz2 rfl (by decide) v xs.length (scells xs) hs hown' ⟨wr.heap.size, 0, none⟩ 1 1 (scells [⟨si, sb⟩]) hx rfl ?_ (scells_oneCell _) (by unfold maxLen; omega) (by omega) (hsin.alloc _).size ?_
  · intro j u hj
    rw [add_plain, Nat.zero_add, hB.cell, ← hj, ← Array.getElem?_toList]; rfl
  · intro v' w' h1 h2 _
    refine h v' w' ?_ ((hsin.alloc _).grown h2 fun k hk => (hown'.lt k hk).1)
    show w'.ownsRow _ _ _ _ (xs ++ [(⟨si, sb⟩ : Stp)]).length (scells (xs ++ [(⟨si, sb⟩ : Stp)]))
    rw [List.length_append, scells_append]
    exact h1
set_option maxHeartbeats 2000000 in
set_option maxRecDepth 100000 in
theorem l4From_any (v : Value) (g : Grf) (x : Int) (w : World) (h : GrfAt w v g) (h2 : g.es.length ≤ 1048577) :
    Calls Try.prog 60 #[v, .int .i64 x] w (StOut w (fromL x g.es)) := by
  obtain ⟨a, b, rfl, ha, hb⟩ := h
  obtain ⟨ao, ac, rfl, _⟩ := ha.row
  obtain ⟨bo, bc, rfl, HE⟩ := hb.row
  clear ha hb
  obtain ⟨n, hn⟩ : ∃ n, n = g.vs.length := ⟨_, rfl⟩
  obtain ⟨m, hm⟩ : ∃ m, m = g.es.length := ⟨_, rfl⟩
  rw [← hn, ← hm]
  have hm9 : m ≤ 1048577 := by omega
  have HM := Lib.hid hm
  clear hn hm
  have hs0 : Since w (w.alloc (.cells #[.slice ao n ac, .slice bo m bc] 27)) := (Since.refl w).alloc _
  have B0 : Hid (Blk (w.alloc (.cells #[.slice ao n ac, .slice bo m bc] 27)) w.heap.size 27 #[.slice ao n ac, .slice bo m bc]) := Blk.new rfl _ _
  go_enter Try.func60, Try.ntmps60
  go_wp2_with fail
  obtain ⟨y, hy⟩ : ∃ y, y = (w.alloc (.cells #[.slice ao n ac, .slice bo m bc] 27)) := ⟨_, rfl⟩
  rw [← hy] at hs0 B0 ⊢
  have hsz : w.heap.size + 1 = y.heap.size := by rw [hy]; simp
  clear hy
  have HSZ := Lib.hid hsz
  clear hsz
  have hol := ownSt_lit y y (Since.refl y) y.heap.size rfl
  have hsl := (Since.refl y).alloc (.cells #[] 33)
  try rw [HSZ.out]
  go_loopw [5, 6] (fun out i wr => ∃ k : Nat, k ≤ m ∧ i = .int .i64 k ∧ Hid (OwnSt y.heap.size wr out (fromL x (g.es.take k))) ∧ Since y wr) (fun _ i _ => m - (intOf i).toNat)
  case atStart => exact ⟨0, Nat.zero_le _, rfl, hol, hsl⟩
  case round =>
    obtain ⟨k, hk, rfl, HOw, hsw⟩ := hrel
    obtain ⟨p0, p1, _, _⟩ := (B0.out.since hsw).two
    by_cases hlt : k < m
    · have hx : k < g.es.length := by have := HM.out; omega
      obtain ⟨be, oe, rfl, hbe, d0, d1, d2, d3⟩ := HE.out k hx
      have HEC : Hid (∀ W, Since y W → W.cell? ⟨be, oe + k * 4, none⟩ = some (.int .i64 g.es[k].id) ∧ W.cell? ⟨be, oe + k * 4 + 1, none⟩ = some (.int .i64 g.es[k].fr) ∧ W.cell? ⟨be, oe + k * 4 + 2, none⟩ = some (.int .i64 g.es[k].to) ∧ W.cell? ⟨be, oe + k * 4 + 3, none⟩ = some (.int .i64 g.es[k].lb)) := fun W hW => by
        have s1 := since_cells (hs0.trans hW) hbe
        rw [s1, s1, s1, s1]; exact ⟨d0, d1, d2, d3⟩
      clear d0 d1 d2 d3
      obtain ⟨d0, d1, d2, d3⟩ := HEC.out wr hsw
      have HLN : Hid ((fromL x (g.es.take k)).length ≤ 2097154) := by
        have := fromL_len x (g.es.take k)
        rw [List.length_take] at this
        unfold Hid; omega
      have hki : (k : Int) < (m : Int) := by omega
      have hk0 : (0 : Int) ≤ (k : Int) := by omega
      by_cases hf : g.es[k].fr = x <;> by_cases ht : g.es[k].to = x
      · skip
        have hbf : (g.es[k].fr == x) = true := by simpa using hf
        have hbt : (g.es[k].to == x) = true := by simpa using ht
        have HP : Hid (fromL x (g.es.take (k + 1)) = fromL x (g.es.take k) ++ [⟨g.es[k].id, false⟩, ⟨g.es[k].id, true⟩]) := by unfold Hid; rw [fromL_take x g.es k hx]; simp [pieceL, hf, ht]
        clear hf ht
        go_wp2_with (first | (at_builtin; (with_reducible refine wpList_append_st (o := ⟨some 32, _, _, _, _, _⟩) rfl (.tmp 23) (.tmp 31) rfl _ (fromL x (g.es.take k)) (by first | rfl | simp [Act.eval]) HOw.out g.es[k].id false (by first | rfl | simp [Act.eval]) (by have := HLN.out; omega) hsw ?_); intro v23 w23 ho23 hs23; have HO23 := Lib.hid ho23; clear ho23; obtain ⟨p23, r23, _, _⟩ := (B0.out.since hs23).two; obtain ⟨e023, e123, e223, e323⟩ := HEC.out _ hs23) | (at_builtin; (with_reducible refine wpList_append_st (o := ⟨some 50, _, _, _, _, _⟩) rfl (.tmp 41) (.tmp 49) rfl _ ((fromL x (g.es.take k)) ++ [⟨g.es[k].id, false⟩]) (by first | rfl | simp [Act.eval]) HO23.out g.es[k].id true (by first | rfl | simp [Act.eval]) (by have := HLN.out; simp only [List.length_append, List.length_cons, List.length_nil]; omega) hs23 ?_); intro v41 w41 ho41 hs41; have HO41 := Lib.hid ho41; clear ho41; obtain ⟨p41, r41, _, _⟩ := (B0.out.since hs41).two; obtain ⟨e041, e141, e241, e341⟩ := HEC.out _ hs41))
        go_roundw
        case rel => exact ⟨k + 1, by omega, by go_num, (by rw [HP.out]; have := HO41.out; rw [List.append_assoc] at this; exact this), hs41⟩
        case measure => simp [intOf]; omega
      · skip
        have hbf : (g.es[k].fr == x) = true := by simpa using hf
        have hbt : (g.es[k].to == x) = false := by simpa using ht
        have HP : Hid (fromL x (g.es.take (k + 1)) = fromL x (g.es.take k) ++ [⟨g.es[k].id, false⟩]) := by unfold Hid; rw [fromL_take x g.es k hx]; simp [pieceL, hf, ht]
        clear hf ht
        go_wp2_with (first | (at_builtin; (with_reducible refine wpList_append_st (o := ⟨some 32, _, _, _, _, _⟩) rfl (.tmp 23) (.tmp 31) rfl _ (fromL x (g.es.take k)) (by first | rfl | simp [Act.eval]) HOw.out g.es[k].id false (by first | rfl | simp [Act.eval]) (by have := HLN.out; omega) hsw ?_); intro v23 w23 ho23 hs23; have HO23 := Lib.hid ho23; clear ho23; obtain ⟨p23, r23, _, _⟩ := (B0.out.since hs23).two; obtain ⟨e023, e123, e223, e323⟩ := HEC.out _ hs23))
        go_roundw
        case rel => exact ⟨k + 1, by omega, by go_num, (by rw [HP.out]; exact HO23.out), hs23⟩
        case measure => simp [intOf]; omega
      · skip
        have hbf : (g.es[k].fr == x) = false := by simpa using hf
        have hbt : (g.es[k].to == x) = true := by simpa using ht
        have HP : Hid (fromL x (g.es.take (k + 1)) = fromL x (g.es.take k) ++ [⟨g.es[k].id, true⟩]) := by unfold Hid; rw [fromL_take x g.es k hx]; simp [pieceL, hf, ht]
        clear hf ht
        go_wp2_with (first | (at_builtin; (with_reducible refine wpList_append_st (o := ⟨some 50, _, _, _, _, _⟩) rfl (.tmp 41) (.tmp 49) rfl _ (fromL x (g.es.take k)) (by first | rfl | simp [Act.eval]) HOw.out g.es[k].id true (by first | rfl | simp [Act.eval]) (by have := HLN.out; omega) hsw ?_); intro v41 w41 ho41 hs41; have HO41 := Lib.hid ho41; clear ho41; obtain ⟨p41, r41, _, _⟩ := (B0.out.since hs41).two; obtain ⟨e041, e141, e241, e341⟩ := HEC.out _ hs41))
        go_roundw
        case rel => exact ⟨k + 1, by omega, by go_num, (by rw [HP.out]; exact HO41.out), hs41⟩
        case measure => simp [intOf]; omega
      · skip
        have hbf : (g.es[k].fr == x) = false := by simpa using hf
        have hbt : (g.es[k].to == x) = false := by simpa using ht
        have HP : Hid (fromL x (g.es.take (k + 1)) = fromL x (g.es.take k) ++ []) := by unfold Hid; rw [fromL_take x g.es k hx]; simp [pieceL, hf, ht]
        clear hf ht
        go_wp2
        go_roundw
        case rel => exact ⟨k + 1, by omega, by go_num, (by rw [HP.out, List.append_nil]; exact HOw.out), hsw⟩
        case measure => simp [intOf]; omega
    · obtain rfl : k = m := by omega
      have HO : Hid (OwnSt y.heap.size wr u5 (fromL x g.es)) := by
        have := HOw.out
        rw [List.take_of_length_le (by have := HM.out; omega)] at this
        exact this
      clear HOw
      go_wp2
      go_ret
      exact ⟨_, rfl, HO.out.mono (by have := HSZ.out; omega), hs0.trans hsw⟩
set_option maxRecDepth 100000 in
theorem specSF_any (v : Value) (g : Grf) (x : Int) (w : World) (h : GrfAt w v g) (h1 : g.vs.length ≤ 1048577) (h2 : g.es.length ≤ 1048577) :
    Calls Try.prog 15 #[v, .int .i64 x] w (StOut w (fromS g x)) := by
  have HG := Lib.hid h
  obtain ⟨a, b, rfl, ha, hb⟩ := h
  obtain ⟨ao, ac, rfl, _⟩ := ha.row
  obtain ⟨bo, bc, rfl⟩ := hb.len
  clear ha hb
  have hs0 : Since w (w.alloc (.cells #[.slice ao g.vs.length ac, .slice bo g.es.length bc] 27)) := (Since.refl w).alloc _
  have B0 : Hid (Blk (w.alloc (.cells #[.slice ao g.vs.length ac, .slice bo g.es.length bc] 27)) w.heap.size 27 #[.slice ao g.vs.length ac, .slice bo g.es.length bc]) := Blk.new rfl _ _
  rcases Bool.eq_false_or_eq_true (validB g) with hv | hv
  · have HV := Lib.hid hv
    have HF := Lib.hid (fromS_valid g x hv)
    clear hv
    go_enter Try.func15, Try.ntmps15
    go_wp2_with fail
    refine (specVG_any _ g _ (HG.out.since hs0) h1 h2).mono ?_
    rintro en w1 ⟨rfl, hs1⟩
    rw [HV.out]
    have hs01 := hs0.trans hs1
    obtain ⟨p0, p1, _, _⟩ := (B0.out.since hs1).two
    go_wp2_with fail
    refine (l4From_any _ g x _ (HG.out.since hs01) h2).mono ?_
    rintro en w2 ⟨v2, rfl, ho2, hs2⟩
    have HO := Lib.hid (ho2.mono hs01.size)
    have hs02 := hs01.trans hs2
    clear ho2
    go_wp2
    go_ret
    exact ⟨_, rfl, by rw [HF.out]; exact HO.out, hs02⟩
  · have HV := Lib.hid hv
    have HF := Lib.hid (fromS_inval g x hv)
    clear hv
    go_enter Try.func15, Try.ntmps15
    go_wp2_with fail
    refine (specVG_any _ g _ (HG.out.since hs0) h1 h2).mono ?_
    rintro en w1 ⟨rfl, hs1⟩
    rw [HV.out]
    have hs01 := hs0.trans hs1
    have hol := ownSt_lit w w1 hs01 w1.heap.size rfl
    have hs02 := hs01.alloc (.cells #[] 33)
    go_wp2
    go_ret
    exact ⟨_, rfl, by rw [HF.out]; exact hol, hs02⟩
theorem fil_take (p : Stp → Bool) (xs : List Stp) (k : Nat) (hk : k < xs.length) : (xs.take (k + 1)).filter p = (xs.take k).filter p ++ (if p xs[k] = true then [xs[k]] else []) := by
  rw [List.take_succ_eq_append_getElem hk, List.filter_append]
  congr 1
  split
  · rename_i h; rw [List.filter_cons_of_pos h]; rfl
  · rename_i h; rw [List.filter_cons_of_neg h]; rfl
end Go.Proofs.Ytilkheclimammaa
