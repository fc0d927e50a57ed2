/- DistinguishingWord, the model's and the program's. -/
import Derived.Test.YtcokggjekleabaaLwT
import Derived.Test.YtcokggjekleabaaA2
namespace Go.Proofs.Ytcokggjekleabaa
set_option maxRecDepth 100000
open Go.ChangeShapes Go.WideShapes Go.ChangeAt Go.RowKit Go.Maps
set_option linter.unusedVariables false
set_option linter.unusedSimpArgs false

/-- Numbers, and a truth value. -/
def IBOut (w : World) (xs : List Int) (c : Bool) (e : Ending) (w' : World) : Prop := ∃ v, e = .returned (.tuple #[v, .bool c]) ∧ Own w.heap.size w' v xs ∧ Since w w'
theorem dwA_yes {A : Aut} {s t : Int} (h : dwOk A s t = true) : dwA A s t = dwR A s t := by unfold dwA; rw [if_pos h]
theorem dwA_no {A : Aut} {s t : Int} (h : dwOk A s t = false) : dwA A s t = none := by unfold dwA; rw [if_neg (by rw [h]; decide)]
set_option maxHeartbeats 2000000 in
set_option maxRecDepth 100000 in
theorem specDG_any (v : Value) (A : Aut) (s t : Int) (w : World) (h : AutAt w v A) (hm : MxA A) :
    Calls Try.prog 16 #[v, .int .i64 s, .int .i64 t] w (IBOut w ((dwA A s t).getD []) (dwA A s t).isSome) := by
  have HVA : Hid (∀ W, Since w W → Calls Try.prog 20 #[v] W fun e w' => e = .returned (.bool (validA A)) ∧ Since W w') := fun W hW => specVA_any v A W (h.since hW) hm
  have HDF : Hid (∀ W, Since w W → dwOk A s t = true → Calls Try.prog 56 #[v, .int .i64 s, v, .int .i64 t, .bool false] W (WdOut W (dwR A s t))) := fun W hW hok => by
    obtain ⟨h1, h2, h3⟩ := dwOk_in hok
    exact differ_any v v A A s t false _ W (h.since hW) (h.since hW) h1 h1 h2 h3 (dwR_spec h1 h2 h3)
  have hmx := hm.1
  obtain ⟨a, b, rfl, _, ha, hb⟩ := h
  obtain ⟨ao, ca, rfl⟩ := ha.len
  obtain ⟨bo, cb, rfl⟩ := hb.len
  clear ha hb hm
  obtain ⟨V, hV⟩ : ∃ b, b = validA A := ⟨_, rfl⟩
  obtain ⟨S, hS⟩ : ∃ b, b = inB s 0 ((A.ac.length : Int) - 1) := ⟨_, rfl⟩
  obtain ⟨T, hT⟩ : ∃ b, b = inB t 0 ((A.ac.length : Int) - 1) := ⟨_, rfl⟩
  have HOK : Hid (dwOk A s t = (V && S && T)) := by
    unfold Hid dwOk
    rw [hV, hS, hT]
    congr 1
    · congr 1
      unfold inB; exact decide_eq_decide.2 ⟨fun h => by omega, fun h => by omega⟩
    · unfold inB; exact decide_eq_decide.2 ⟨fun h => by omega, fun h => by omega⟩
  rw [← hV] at HVA
  have HS := Lib.hid hS
  have HT := Lib.hid hT
  obtain ⟨R, hR⟩ : ∃ R, R = dwA A s t := ⟨_, rfl⟩
  rw [← hR]
  have HRN : Hid (dwOk A s t = false → R = none) := fun h => by rw [hR]; exact dwA_no h
  have HDR : Hid (∀ W, Since w W → dwOk A s t = true → Calls Try.prog 56 #[.agg #[.int .i64 A.st, .slice ao A.ac.length ca, .slice bo A.nx.length cb], .int .i64 s, .agg #[.int .i64 A.st, .slice ao A.ac.length ca, .slice bo A.nx.length cb], .int .i64 t, .bool false] W (WdOut W R)) := fun W hW hok => by
    rw [hR, dwA_yes hok]; exact HDF.out W hW hok
  obtain ⟨n, hn⟩ : ∃ n, n = A.ac.length := ⟨_, rfl⟩
  obtain ⟨m, hmm⟩ : ∃ n, n = A.nx.length := ⟨_, rfl⟩
  rw [← hn, ← hmm] at HVA HDR ⊢
  rw [← hn] at HS HT hmx
  have hw1 : IntKind.i64.wrap ((n : Int) - 1) = (n : Int) - 1 := by rw [IntKind.wrap_i64]; unfold maxLen at hmx; omega
  clear hn hmm hV hS hT hR HDF
  obtain ⟨y, hy⟩ : ∃ y, y = w.alloc (.cells #[.int .i64 A.st, .slice ao n ca, .slice bo m cb] 27) := ⟨_, rfl⟩
  have hs0 : Since w y := by rw [hy]; exact (Since.refl w).alloc _
  have B0 : Hid (Blk y w.heap.size 27 #[.int .i64 A.st, .slice ao n ca, .slice bo m cb]) := by rw [hy]; exact Blk.new rfl _ _
  have HY := Lib.hid hy
  clear hy
  go_enter Try.func16, Try.ntmps16
  go_upto_region 1 with fail
  rw [← HY.out]
  obtain ⟨⟨p0, p1, p2⟩, _⟩ := B0.out.threeA
  go_wp2_with fail
  refine (HVA.out _ hs0).mono ?_
  rintro e w1 ⟨rfl, hs1⟩
  have HS1 := Lib.hid (hs0.trans hs1)
  have B1 := Lib.hid (B0.out.since hs1)
  clear p0 p1 p2
  obtain ⟨⟨p0, p1, p2⟩, _⟩ := B1.out.threeA
  cases V with
  | false =>
    have HF : Hid (R = none) := HRN.out (by rw [HOK.out]; rfl)
    have HOL := Lib.hid (own_lit w w1 HS1.out w1.heap.size rfl)
    have hsl := HS1.out.alloc (.cells #[] 3)
    go_wp2
    go_ret2
    rw [HF.out]
    exact ⟨_, rfl, HOL.out, hsl⟩
  | true =>
    go_wp2_with fail
    refine (l1In_any s 0 ((n : Int) - 1) _).mono ?_
    rintro e w2 ⟨rfl, rfl⟩
    rw [← HS.out]
    cases S with
    | false =>
      have HF : Hid (R = none) := HRN.out (by rw [HOK.out]; rfl)
      have HOL := Lib.hid (own_lit w w1 HS1.out w1.heap.size rfl)
      have hsl := HS1.out.alloc (.cells #[] 3)
      go_wp2
      go_ret2
      rw [HF.out]
      exact ⟨_, rfl, HOL.out, hsl⟩
    | true =>
      go_wp2_with fail
      refine (l1In_any t 0 ((n : Int) - 1) _).mono ?_
      rintro e w3 ⟨rfl, rfl⟩
      rw [← HT.out]
      cases T with
      | false =>
        have HF : Hid (R = none) := HRN.out (by rw [HOK.out]; rfl)
        have HOL := Lib.hid (own_lit w w1 HS1.out w1.heap.size rfl)
        have hsl := HS1.out.alloc (.cells #[] 3)
        go_wp2
        go_ret2
        rw [HF.out]
        exact ⟨_, rfl, HOL.out, hsl⟩
      | true =>
        go_wp2_with fail
        refine (HDR.out _ HS1.out (by rw [HOK.out]; rfl)).mono ?_
        rintro e w4 ⟨u, rfl, hou, hs4⟩
        have HOU := Lib.hid (hou.mono HS1.out.size)
        have hs5 := HS1.out.trans hs4
        clear hou
        go_wp2
        go_ret2
        exact ⟨u, rfl, HOU.out, hs5⟩
set_option maxHeartbeats 2000000 in
set_option maxRecDepth 100000 in
theorem implDG_any (v : Value) (A : Aut) (s t : Int) (w : World) (h : AutAt w v A) (hm : MxA A) :
    Calls Try.prog 15 #[v, .int .i64 s, .int .i64 t] w (IBOut w ((dwA A s t).getD []) (dwA A s t).isSome) := by
  have HVA : Hid (∀ W, Since w W → Calls Try.prog 51 #[v] W fun e w' => e = .returned (.bool (validA A)) ∧ Since W w') := fun W hW => implVA_any v A W (h.since hW) hm
  have HST : Hid (∀ (x : Int) W, Since w W → Calls Try.prog 52 #[v, .int .i64 x] W fun e w' => e = .returned (.bool (stB A.ac.length x)) ∧ Since W w') := fun x W hW => isState_any v A x W (h.since hW) hm.1
  have HDM : Hid (∀ W, Since w W → Calls Try.prog 53 #[v, .int .i64 s, .int .i64 t] W fun e w' => ∃ BX, e = .returned (mchDV s t BX) ∧ DmB A BX w' ∧ Since W w') := fun W hW => diffM_any v A s t W (h.since hW)
  have HLW : Hid (∀ BX W, dwOk A s t = true → DmB A BX W → Calls Try.prog 54 #[mchDV s t BX] W (WdOut W (dwR A s t))) := fun BX W hok hd => by
    obtain ⟨h1, h2, h3⟩ := dwOk_in hok
    exact lword_any A BX s t _ W h1 h2 h3 hd (dwR_impl h1 h2 h3)
  obtain ⟨a, b, rfl, _, ha, hb⟩ := h
  obtain ⟨ao, ca, rfl⟩ := ha.len
  obtain ⟨bo, cb, rfl⟩ := hb.len
  clear ha hb hm
  obtain ⟨V, hV⟩ : ∃ b, b = validA A := ⟨_, rfl⟩
  obtain ⟨S, hS⟩ : ∃ b, b = stB A.ac.length s := ⟨_, rfl⟩
  obtain ⟨T, hT⟩ : ∃ b, b = stB A.ac.length t := ⟨_, rfl⟩
  have HOK : Hid (dwOk A s t = (V && S && T)) := by
    unfold Hid dwOk
    rw [hV, hS, hT]
    rfl
  rw [← hV] at HVA
  have HSs : Hid (∀ W, Since w W → Calls Try.prog 52 #[.agg #[.int .i64 A.st, .slice ao A.ac.length ca, .slice bo A.nx.length cb], .int .i64 s] W fun e w' => e = .returned (.bool S) ∧ Since W w') := fun W hW => by rw [hS]; exact HST.out s W hW
  have HTt : Hid (∀ W, Since w W → Calls Try.prog 52 #[.agg #[.int .i64 A.st, .slice ao A.ac.length ca, .slice bo A.nx.length cb], .int .i64 t] W fun e w' => e = .returned (.bool T) ∧ Since W w') := fun W hW => by rw [hT]; exact HST.out t W hW
  obtain ⟨R, hR⟩ : ∃ R, R = dwA A s t := ⟨_, rfl⟩
  rw [← hR]
  have HRN : Hid (dwOk A s t = false → R = none) := fun h => by rw [hR]; exact dwA_no h
  have HLR : Hid (∀ BX W, dwOk A s t = true → DmB A BX W → Calls Try.prog 54 #[mchDV s t BX] W (WdOut W R)) := fun BX W hok hd => by
    rw [hR, dwA_yes hok]; exact HLW.out BX W hok hd
  clear HST
  obtain ⟨n, hn⟩ : ∃ n, n = A.ac.length := ⟨_, rfl⟩
  obtain ⟨m, hmm⟩ : ∃ n, n = A.nx.length := ⟨_, rfl⟩
  rw [← hn, ← hmm] at HVA HSs HTt HDM ⊢
  clear hn hmm hV hS hT hR HLW
  obtain ⟨y, hy⟩ : ∃ y, y = w.alloc (.cells #[.int .i64 A.st, .slice ao n ca, .slice bo m cb] 27) := ⟨_, rfl⟩
  have hs0 : Since w y := by rw [hy]; exact (Since.refl w).alloc _
  have B0 : Hid (Blk y w.heap.size 27 #[.int .i64 A.st, .slice ao n ca, .slice bo m cb]) := by rw [hy]; exact Blk.new rfl _ _
  have HNIL : Hid (∀ W, Own w.heap.size W (.slice none 0 0) []) := fun W => ⟨fun x hx => by simp at hx, World.ownsRow_nil _ _ _ _⟩
  have HY := Lib.hid hy
  clear hy
  go_enter Try.func15, Try.ntmps15
  go_upto_region 1 with fail
  rw [← HY.out]
  obtain ⟨⟨p0, p1, p2⟩, _⟩ := B0.out.threeA
  go_wp2_with fail
  refine (HVA.out _ hs0).mono ?_
  rintro e w1 ⟨rfl, hs1⟩
  have hs01 := hs0.trans hs1
  have B1 := Lib.hid (B0.out.since hs1)
  clear p0 p1 p2 hs1 hs0
  cases V with
  | false =>
    have HF : Hid (R = none) := HRN.out (by rw [HOK.out]; rfl)
    go_wp2
    go_ret2
    rw [HF.out]
    exact ⟨_, rfl, HNIL.out _, hs01⟩
  | true =>
    obtain ⟨⟨p0, p1, p2⟩, _⟩ := B1.out.threeA
    go_wp2_with fail
    refine (HSs.out _ hs01).mono ?_
    rintro e w2 ⟨rfl, hs2⟩
    have hs02 := hs01.trans hs2
    have B2 := Lib.hid (B1.out.since hs2)
    clear p0 p1 p2 hs2 hs01
    cases S with
    | false =>
      have HF : Hid (R = none) := HRN.out (by rw [HOK.out]; rfl)
      go_wp2
      go_ret2
      rw [HF.out]
      exact ⟨_, rfl, HNIL.out _, hs02⟩
    | true =>
      obtain ⟨⟨p0, p1, p2⟩, _⟩ := B2.out.threeA
      go_wp2_with fail
      refine (HTt.out _ hs02).mono ?_
      rintro e w3 ⟨rfl, hs3⟩
      have hs03 := hs02.trans hs3
      have B3 := Lib.hid (B2.out.since hs3)
      clear p0 p1 p2 hs3 hs02
      cases T with
      | false =>
        have HF : Hid (R = none) := HRN.out (by rw [HOK.out]; rfl)
        go_wp2
        go_ret2
        rw [HF.out]
        exact ⟨_, rfl, HNIL.out _, hs03⟩
      | true =>
        obtain ⟨⟨p0, p1, p2⟩, _⟩ := B3.out.threeA
        go_wp2_with fail
        refine (HDM.out _ hs03).mono ?_
        rintro e w4 ⟨BX, rfl, hdm, hs4⟩
        have HDB := Lib.hid hdm
        have hs04 := hs03.trans hs4
        clear p0 p1 p2 hs4 hs03 hdm
        go_wp2_with fail
        refine (HLR.out BX _ (by rw [HOK.out]; rfl) HDB.out).mono ?_
        rintro e w5 ⟨u, rfl, hou, hs5⟩
        have HOU := Lib.hid (hou.mono hs04.size)
        have hs05 := hs04.trans hs5
        clear hou
        go_wp2
        go_ret2
        exact ⟨u, rfl, HOU.out, hs05⟩
end Go.Proofs.Ytcokggjekleabaa
