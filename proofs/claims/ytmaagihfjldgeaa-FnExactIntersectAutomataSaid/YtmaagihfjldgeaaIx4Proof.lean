/- FnExactIntersectAutomata: for every argument the function of the program answers as the model does. Conditions: none. -/
import Derived.Test.YtmaagihfjldgeaaI4
import Derived.Test.YtmaagihfjldgeaaA6
import Derived.ShutString
namespace Go.Proofs.Ytmaagihfjldgeaa.fnExactIntersectAutomata
set_option maxRecDepth 100000
open Go.ChangeShapes Go.WideShapes Go.ChangeAt Go.RowKit
open Go.ChangeMaps (open_string shut_string)
set_option linter.unusedVariables false

theorem own : ownKnob Try.prog.godebug = none := by kernel_rfl

set_option maxRecDepth 100000 in
theorem lifted (os : Os) (started : os.Started) (H : Type) (enc : TypeId × Value → H) :
    ReturnsInHanded {} Try.checked os 10 .any (Rows.fnExactIntersectAutomataSpec.pre6 enc Try.prog Try.f10 Rows.fnExactIntersectAutomataRow.domain false) (Rows.fnExactIntersectAutomataSpec.post enc Try.prog Try.f10 false true false false) := by
  refine returnsInHanded_of_change (C := Try.checked) own started (by kernel_rfl) Try.func10
    (ChangeSpec.witness6 (enc := enc) (C := Try.checked) false ⟨#[], #[.agg #[.int .i64 0, .slice none 0 0, .slice none 0 0], .agg #[.int .i64 0, .slice none 0 0, .slice none 0 0]], []⟩ 8 (by kernel_rfl) (by kernel_rfl) (by kernel_rfl) (by kernel_rfl)) ?_
  intro W base args ds gs before hval0 hW hcnd _
  have hval : ∀ (j : Nat) t v, Try.f10.params[j]? = some t → args[j]? = some v → Value.okWide Try.prog W .any base t v := hval0
  have hW' := hW
  obtain ⟨p, q, hA0, hV, rfl, hfz, hnd⟩ := hW
  have hA : DataW.TrodAll enc Try.prog W 0 (fun _ => true) true Try.f10.params.toList args.toList ds p := hA0
  rw [Try.params10] at hA hval
  obtain ⟨v0, vs0, d0, ds0, p0, q0, hargs, rfl, rfl, h0, r0⟩ := trodAll_cons hA
  obtain ⟨v1, vs1, d1, ds1, p1, q1, rfl, rfl, rfl, h1, r1⟩ := trodAll_cons r0
  obtain ⟨rfl, rfl, rfl⟩ := trodAll_nil r1
  obtain rfl : args = #[v0, v1] := by cases args; simp_all
  obtain ⟨rfl, rfl⟩ := trodVars_none hV
  have k0 := h0
  have lt0 : ∀ x ∈ p0, x.block < W.heap.size := by obtain ⟨m, hm⟩ := k0; exact DataW.trod_lt m _ _ _ hm
  obtain ⟨au0, w0, l0⟩ := aut_open (hval 0 58 v0 rfl rfl) h0
  have k1 := h1
  have lt1 : ∀ x ∈ p1, x.block < W.heap.size := by obtain ⟨m, hm⟩ := k1; exact DataW.trod_lt m _ _ _ hm
  obtain ⟨au1, w1, l1⟩ := aut_open (hval 1 58 v1 rfl rfl) h1
  clear hA0 hval0
  simp only [List.append_nil] at hW'
  refine (fnExactIntersectAutomata_walk v0 v1 au0 au1  W w0 w1 l0 l1).mono fun e W' ⟨he, hg⟩ => ?_
  subst he
  exact ⟨_, rfl, _, _, _, [], _, [], hW', (trodAll_cons_mk (shut_bool Try.underlying4 _) trodAll_mk0), (trodAll_cons_mk (Below.trod laid_outI (by kernel_rfl) (of_decide_eq_true (by kernel_rfl)) k0 hg.below lt0) (trodAll_cons_mk (Below.trod laid_outI (by kernel_rfl) (of_decide_eq_true (by kernel_rfl)) k1 hg.below lt1) trodAll_mk0)), rfl, hg.below.frame _, fun h => by cases h⟩

theorem and2 {a b : Bool} (h : a = true) (k : b = true) : (a && b) = true := by rw [h, k]; rfl
theorem part0 : (Rows.fnExactIntersectAutomataRow.wf (OpenSpec.ofChange Rows.fnExactIntersectAutomataSpec)) = true := by kernel_rfl
theorem part1 : (laidOutB Try.pinned.checked.prog) = true := by kernel_rfl
theorem part2 : (mapsRowed Try.pinned.checked.prog) = true := by kernel_rfl
theorem part3 : (Try.f10.params.all (Try.pinned.checked.prog.readableRec ·)) = true := by kernel_rfl
theorem part4 : (namedTie Try.pinned.checked.prog Rows.fnExactIntersectAutomataRow.named Rows.fnExactIntersectAutomataSpec.vars) = true := by kernel_rfl
theorem part5 : (Rows.fnExactIntersectAutomataRow.stops == []) = true := by kernel_rfl
theorem part6 : (Try.pinned.checked.prog.stops == []) = true := by kernel_rfl
theorem part7 : (Rows.fnExactIntersectAutomataRow.knobs == []) = true := by kernel_rfl
theorem part8 : (Try.pinned.checked.prog.stopKnobs == []) = true := by kernel_rfl
theorem part9 : (Rows.fnExactIntersectAutomataRow.inPlace == Try.pinned.checked.prog.inPlace 10) = true := by kernel_rfl
theorem part10 : (Rows.fnExactIntersectAutomataRow.unfollowed == Try.pinned.checked.prog.unfollowed 10) = true := by kernel_rfl
theorem part11 : (Rows.fnExactIntersectAutomataRow.recurses == Try.pinned.checked.prog.recurses 10) = true := by kernel_rfl
theorem part12 : (Rows.fnExactIntersectAutomataRow.named == Try.pinned.checked.prog.varsNamed 10) = true := by kernel_rfl
theorem part13 : (Rows.fnExactIntersectAutomataRow.maps == (Try.f10.params.toList ++ Rows.fnExactIntersectAutomataSpec.plain.varTypes Try.pinned.checked.prog).any (Try.pinned.checked.prog.mapsRec ·)) = true := by kernel_rfl
theorem part14 : (Rows.fnExactIntersectAutomataRow.ifaces == (Try.f10.params.toList ++ Rows.fnExactIntersectAutomataSpec.plain.varTypes Try.pinned.checked.prog).any (Try.pinned.checked.prog.ifacesRec ·)) = true := by kernel_rfl
theorem part15 : (Rows.fnExactIntersectAutomataRow.mapsOut == Try.pinned.checked.prog.mapsAmong Try.f10.resultTypes.toList) = true := by kernel_rfl
theorem part16 : (Rows.fnExactIntersectAutomataRow.loops == (Try.f10.params.toList ++ Rows.fnExactIntersectAutomataSpec.plain.varTypes Try.pinned.checked.prog).any (Try.pinned.checked.prog.loopsFrom ·)) = true := by kernel_rfl
theorem part17 : (Rows.fnExactIntersectAutomataRow.wideKeys == (Try.f10.params.toList ++ Rows.fnExactIntersectAutomataSpec.plain.varTypes Try.pinned.checked.prog ++ Try.f10.resultTypes.toList).any (Try.pinned.checked.prog.wideKeysFrom ·)) = true := by kernel_rfl
theorem part18 : (Rows.fnExactIntersectAutomataSpec.vars.all (Try.pinned.checked.prog.varReadable ·)) = true := by kernel_rfl
theorem part19 : (Try.f10.resultTypes.all (fun t => Try.pinned.checked.prog.readableRec t && decide (t < Try.pinned.checked.prog.types.size))) = true := by kernel_rfl
theorem part20 : (Rows.fnExactIntersectAutomataRow.ifacesOut == Try.f10.resultTypes.toList.any (Try.pinned.checked.prog.ifacesRec ·)) = true := by kernel_rfl
theorem part21 : (Rows.fnExactIntersectAutomataRow.loopsOut == Try.f10.resultTypes.toList.any (Try.pinned.checked.prog.loopsFrom ·)) = true := by kernel_rfl
theorem part22 : (Rows.fnExactIntersectAutomataRow.plainKeys == Try.pinned.checked.prog.plainKeys) = true := by kernel_rfl
theorem part23 : (Rows.fnExactIntersectAutomataRow.shortTexts.isNone) = true := by kernel_rfl
theorem part24 : (Try.pinned.checked.prog.stopsHeard) = true := by kernel_rfl
theorem part25 : (Try.pinned.checked.prog.mayEnter) = true := head_enter
theorem part26 : (Rows.fnExactIntersectAutomataRow.lifted == Try.pinned.checked.prog.liftsFinal) = true := by rw [head_lifts]; kernel_rfl
theorem part27 : (Try.pinned.checked.prog.make == some Rows.fnExactIntersectAutomataRow.make) = true := by rw [head_make]; kernel_rfl
theorem part28 : (Rows.fnExactIntersectAutomataRow.kinds == (if Rows.fnExactIntersectAutomataRow.domain.isEmpty then [] else Try.f10.params.toList.map fun t => match Try.pinned.checked.prog.underlying t with | some (.int k) => some k | _ => none)) = true := by kernel_rfl
theorem part29 : (Rows.fnExactIntersectAutomataRow.pinned == Rows.fnExactIntersectAutomataRow.pinnedBy) = true := by kernel_rfl
theorem part30 : (Rows.fnExactIntersectAutomataRow.veiled == (Try.f10.params.toList ++ Rows.fnExactIntersectAutomataSpec.plain.varTypes Try.pinned.checked.prog ++ Try.f10.resultTypes.toList).any (Try.pinned.checked.prog.veiledRec ·)) = true := by kernel_rfl
theorem part31 : (Rows.fnExactIntersectAutomataRow.veiledFits Try.pinned.checked.prog Try.f10.params.toList (Try.f10.params.toList ++ Rows.fnExactIntersectAutomataSpec.plain.varTypes Try.pinned.checked.prog ++ Try.f10.resultTypes.toList)) = true := by kernel_rfl
theorem closed : joinedFacts Try.pinned.checked.prog 10 Try.f10 Rows.fnExactIntersectAutomataSpec Rows.fnExactIntersectAutomataRow = true := by
  unfold joinedFacts
  exact (and2 (and2 (and2 (and2 (and2 (and2 (and2 (and2 (and2 (and2 (and2 (and2 (and2 (and2 (and2 (and2 (and2 (and2 (and2 (and2 (and2 (and2 (and2 (and2 (and2 (and2 (and2 (and2 (and2 (and2 (and2 part0 part1) part2) part3) part4) part5) part6) part7) part8) part9) part10) part11) part12) part13) part14) part15) part16) part17) part18) part19) part20) part21) part22) part23) part24) part25) part26) part27) part28) part29) part30) part31)
theorem named : Try.pinned.checked.prog.funcNamed Rows.fnExactIntersectAutomataRow.func = some 10 := by kernel_rfl
theorem inst : Try.f10.isInstance Try.pinned.checked.prog Rows.fnExactIntersectAutomataRow.origin Rows.fnExactIntersectAutomataRow.targs := of_decide_eq_true (by kernel_rfl)
theorem wrap : Try.f10.isWrapper Try.pinned.checked.prog Rows.fnExactIntersectAutomataRow.wrapper Rows.fnExactIntersectAutomataRow.mainSum := by unfold Func.isWrapper; first | (rw [if_pos (by decide +kernel)]; kernel_rfl) | (rw [if_neg (by decide +kernel)]; exact ⟨rfl, rfl⟩)
theorem over : Rows.fnExactIntersectAutomataRow.holds Try.pinned (OpenSpec.ofChange Rows.fnExactIntersectAutomataSpec) :=
  OpenClaim.holds_of_wide 10 Try.f10 rfl rfl rfl rfl rfl rfl rfl ⟨rfl, rfl, rfl, rfl, rfl⟩ rfl rfl rfl rfl rfl named Try.func10 closed inst wrap
    (fun os started H enc _ => lifted os started H enc)

theorem proved : Rows.FnExactIntersectAutomataSaid :=
  over
end Go.Proofs.Ytmaagihfjldgeaa.fnExactIntersectAutomata
