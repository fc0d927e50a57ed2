/- NetBatch's mathematics: the list that is kept; the places that stay. -/
import Derived.Test.YtgdeiecbkmhbeaaChA
namespace Go.Proofs.Ytgdeiecbkmhbeaa
set_option maxRecDepth 100000
set_option linter.unusedVariables false

/-- The last place below n at which x holds d. -/
def lastIx (x : List Chg) (d : Chg) : Nat → Option Nat
  | 0 => none
  | n + 1 => if x[n]? = some d then some n else lastIx x d n
theorem lastIx_some {x : List Chg} {d : Chg} : ∀ {n k : Nat}, lastIx x d n = some k → k < n ∧ x[k]? = some d ∧ ∀ j, k < j → j < n → x[j]? ≠ some d
  | 0, k, h => by simp [lastIx] at h
  | n + 1, k, h => by
    unfold lastIx at h
    split at h
    · rename_i hd
      simp only [Option.some.injEq] at h
      subst h
      exact ⟨by omega, hd, fun j h1 h2 => by omega⟩
    · rename_i hd
      obtain ⟨h1, h2, h3⟩ := lastIx_some h
      refine ⟨by omega, h2, fun j j1 j2 => ?_⟩
      by_cases e : j = n
      · subst e; exact hd
      · exact h3 j j1 (by omega)
theorem lastIx_none {x : List Chg} {d : Chg} : ∀ {n : Nat}, lastIx x d n = none → ∀ j, j < n → x[j]? ≠ some d
  | 0, h, j, hj => by omega
  | n + 1, h, j, hj => by
    unfold lastIx at h
    split at h
    · cases h
    · rename_i hd
      by_cases e : j = n
      · subst e; exact hd
      · exact lastIx_none h j (by omega)
def stepN (x : List Chg) (c : Chg) : List Chg :=
  match lastIx x (turnC c) x.length with
  | none => x ++ [c]
  | some k => x.eraseIdx k
def netL (cs : List Chg) : List Chg := cs.foldl stepN []
def netB (cs : List Chg) : List Chg := (netL cs).filter (fun c => !c.ins) ++ (netL cs).filter (fun c => c.ins)
theorem netL_snoc (cs : List Chg) (c : Chg) : netL (cs ++ [c]) = stepN (netL cs) c := by simp [netL]
theorem netL_step (cs : List Chg) (k : Nat) (h : k < cs.length) : netL (cs.take (k + 1)) = stepN (netL (cs.take k)) cs[k] := by
  rw [List.take_succ_eq_append_getElem h, netL_snoc]
theorem stepN_sub (x : List Chg) (c : Chg) : ∀ a ∈ stepN x c, a ∈ x ∨ a = c := by
  intro a ha
  unfold stepN at ha
  split at ha
  · simpa using ha
  · exact .inl (List.mem_of_mem_eraseIdx ha)
theorem stepN_len (x : List Chg) (c : Chg) : (stepN x c).length ≤ x.length + 1 := by
  unfold stepN
  split
  · simp
  · rw [List.length_eraseIdx]; split <;> omega
theorem netL_len (cs : List Chg) : ∀ k, (netL (cs.take k)).length ≤ k
  | 0 => by simp [netL]
  | k + 1 => by
    by_cases h : k < cs.length
    · rw [netL_step cs k h]
      have := stepN_len (netL (cs.take k)) cs[k]
      have := netL_len cs k
      omega
    · have e : cs.take (k + 1) = cs.take k := by rw [List.take_of_length_le (by omega), List.take_of_length_le (by omega)]
      rw [e]; have := netL_len cs k; omega
theorem netL_mem (cs : List Chg) : ∀ k, ∀ a ∈ netL (cs.take k), a ∈ cs
  | 0, a, ha => by simp [netL] at ha
  | k + 1, a, ha => by
    by_cases h : k < cs.length
    · rw [netL_step cs k h] at ha
      rcases stepN_sub _ _ a ha with ha | rfl
      · exact netL_mem cs k a ha
      · exact List.getElem_mem h
    · have e : cs.take (k + 1) = cs.take k := by rw [List.take_of_length_le (by omega), List.take_of_length_le (by omega)]
      rw [e] at ha; exact netL_mem cs k a ha

/-! The program's way: places. -/
/-- The places of L at which cs holds c. -/
def plcN (cs : List Chg) (L : List Nat) (c : Chg) : List Nat := L.filter fun i => cs[i]? == some c
def netP (cs : List Chg) : Nat → List Nat
  | 0 => []
  | j + 1 =>
    match cs[j]? with
    | none => netP cs j
    | some c =>
      match (plcN cs (netP cs j) (turnC c)).getLast? with
      | none => netP cs j ++ [j]
      | some p => (netP cs j).filter fun i => i != p
theorem netP_none {cs : List Chg} {j : Nat} (h : j < cs.length) (he : (plcN cs (netP cs j) (turnC cs[j])).getLast? = none) : netP cs (j + 1) = netP cs j ++ [j] := by
  rw [netP, List.getElem?_eq_getElem h]; dsimp only; rw [he]
theorem netP_some {cs : List Chg} {j p : Nat} (h : j < cs.length) (he : (plcN cs (netP cs j) (turnC cs[j])).getLast? = some p) : netP cs (j + 1) = (netP cs j).filter fun i => i != p := by
  rw [netP, List.getElem?_eq_getElem h]; dsimp only; rw [he]
theorem netP_lt (cs : List Chg) : ∀ j, ∀ i ∈ netP cs j, i < j ∧ i < cs.length
  | 0, i, h => by simp [netP] at h
  | j + 1, i, h => by
    unfold netP at h
    split at h
    · have := netP_lt cs j i h; omega
    · rename_i c hc
      have hj := (List.getElem?_eq_some_iff.1 hc).1
      split at h
      · rcases List.mem_append.1 h with h | h
        · have := netP_lt cs j i h; omega
        · simp at h; omega
      · have := netP_lt cs j i (List.mem_filter.1 h).1; omega
theorem netP_sorted (cs : List Chg) : ∀ j, (netP cs j).Pairwise (· < ·)
  | 0 => by simp [netP]
  | j + 1 => by
    unfold netP
    split
    · exact netP_sorted cs j
    · split
      · refine List.pairwise_append.2 ⟨netP_sorted cs j, by simp, fun a ha b hb => ?_⟩
        simp at hb; have := netP_lt cs j a ha; omega
      · exact (netP_sorted cs j).filter _
theorem netP_nodup (cs : List Chg) (j : Nat) : (netP cs j).Nodup := (netP_sorted cs j).imp (fun h => Nat.ne_of_lt h)
/-- What is at the places L. -/
def atP (cs : List Chg) (L : List Nat) : List Chg := L.filterMap fun i => cs[i]?
theorem atP_map {cs : List Chg} {L : List Nat} (h : ∀ i ∈ L, i < cs.length) : atP cs L = L.pmap (fun i hi => cs[i]'hi) h := by
  induction L with
  | nil => rfl
  | cons i r ih =>
    have hi := h i (by simp)
    simp only [atP, List.filterMap_cons, List.getElem?_eq_getElem hi, List.pmap]
    congr 1
    exact ih (fun q hq => h q (by simp [hq]))
theorem atP_get {cs : List Chg} {L : List Nat} (h : ∀ i ∈ L, i < cs.length) (k : Nat) : (atP cs L)[k]? = L[k]?.bind fun i => cs[i]? := by
  induction L generalizing k with
  | nil => simp [atP]
  | cons i r ih =>
    have hi := h i (by simp)
    have e : atP cs (i :: r) = cs[i] :: atP cs r := by simp [atP, List.getElem?_eq_getElem hi]
    rw [e]
    cases k with
    | zero => simp [List.getElem?_eq_getElem hi]
    | succ k => simpa using ih (fun q hq => h q (by simp [hq])) k
theorem atP_len {cs : List Chg} {L : List Nat} (h : ∀ i ∈ L, i < cs.length) : (atP cs L).length = L.length := by
  rw [atP_map h]; simp
/-- The last of a filtered list, by its place. -/
theorem last_filter {L : List Nat} {f : Nat → Bool} {k : Nat} (hk : k < L.length) (h1 : f L[k] = true) (h2 : ∀ j (hj : j < L.length), k < j → f L[j] = false) : (L.filter f).getLast? = some L[k] := by
  have e : L = L.take k ++ L[k] :: L.drop (k + 1) := by rw [List.getElem_cons_drop, List.take_append_drop]
  have hd : (L.drop (k + 1)).filter f = [] := by
    rw [List.filter_eq_nil_iff]
    intro a ha
    obtain ⟨j, hj, rfl⟩ := List.mem_iff_getElem.1 ha
    simp only [List.length_drop] at hj
    rw [List.getElem_drop, h2 (k + 1 + j) (by omega) (by omega)]
    simp
  have h3 : L.filter f = (L.take k).filter f ++ [L[k]] := by
    conv => lhs; rw [e]
    rw [List.filter_append, List.filter_cons_of_pos h1, hd]
  rw [h3]; simp
theorem filter_ne_erase : ∀ {L : List Nat} {k : Nat} (hk : k < L.length), L.Nodup → L.filter (fun i => i != L[k]) = L.eraseIdx k
  | [], k, hk, _ => by simp at hk
  | a :: r, 0, hk, hn => by
    obtain ⟨h1, h2⟩ := List.nodup_cons.1 hn
    simp only [List.getElem_cons_zero, List.eraseIdx_cons_zero]
    rw [List.filter_cons_of_neg (by simp), List.filter_eq_self]
    intro b hb; simp; intro e; subst e; exact h1 hb
  | a :: r, k + 1, hk, hn => by
    obtain ⟨h1, h2⟩ := List.nodup_cons.1 hn
    have hk' : k < r.length := by simpa using hk
    simp only [List.getElem_cons_succ, List.eraseIdx_cons_succ]
    have hne : a ≠ r[k] := fun e => h1 (by rw [e]; exact List.getElem_mem hk')
    rw [List.filter_cons_of_pos (by simpa using hne), filter_ne_erase hk' h2]
theorem atP_erase {cs : List Chg} : ∀ {L : List Nat} (k : Nat), (∀ i ∈ L, i < cs.length) → atP cs (L.eraseIdx k) = (atP cs L).eraseIdx k
  | [], k, h => by simp [atP]
  | a :: r, 0, h => by
    have ha := h a (by simp)
    simp [atP, List.getElem?_eq_getElem ha]
  | a :: r, k + 1, h => by
    have ha := h a (by simp)
    have ih := atP_erase (cs := cs) (L := r) k (fun q hq => h q (by simp [hq]))
    simp only [atP, List.eraseIdx_cons_succ, List.filterMap_cons, List.getElem?_eq_getElem ha] at ih ⊢
    rw [ih]
theorem netP_net (cs : List Chg) : ∀ j, j ≤ cs.length → atP cs (netP cs j) = netL (cs.take j)
  | 0, _ => by simp [netP, atP, netL]
  | j + 1, hj => by
    have hlt : j < cs.length := by omega
    have ih := netP_net cs j (by omega)
    have hL : ∀ i ∈ netP cs j, i < cs.length := fun i hi => (netP_lt cs j i hi).2
    rw [netL_step cs j hlt, ← ih]
    unfold stepN
    rw [atP_len hL]
    cases hx : lastIx (atP cs (netP cs j)) (turnC cs[j]) (netP cs j).length with
    | none =>
      have he : plcN cs (netP cs j) (turnC cs[j]) = [] := by
        unfold plcN
        rw [List.filter_eq_nil_iff]
        intro a ha hf
        obtain ⟨q, hq, rfl⟩ := List.mem_iff_getElem.1 ha
        have := lastIx_none hx q hq
        rw [atP_get hL, List.getElem?_eq_getElem hq] at this
        exact this (by simpa using hf)
      rw [netP_none hlt (by rw [he]; rfl)]
      simp [atP, List.getElem?_eq_getElem hlt]
    | some k =>
      obtain ⟨h1, h2, h3⟩ := lastIx_some hx
      rw [atP_get hL, List.getElem?_eq_getElem h1] at h2
      have hl := last_filter (L := netP cs j) (f := fun i => cs[i]? == some (turnC cs[j])) h1 (by simpa using h2) (fun q hq hkq => by
        have := h3 q hkq hq
        rw [atP_get hL, List.getElem?_eq_getElem hq] at this
        simpa using this)
      rw [netP_some hlt hl, filter_ne_erase h1 (netP_nodup cs j), atP_erase k hL]

/-! What the map holds under a change: the places that stay at which it stands. -/
theorem plcN_append {cs : List Chg} {L : List Nat} {j : Nat} (h : j < cs.length) (c : Chg) : plcN cs (L ++ [j]) c = plcN cs L c ++ (if cs[j] = c then [j] else []) := by
  unfold plcN
  rw [List.filter_append]
  by_cases hc : cs[j] = c <;> simp [List.getElem?_eq_getElem h, hc]
theorem plcN_other {cs : List Chg} {L : List Nat} {p : Nat} {c d : Chg} (hp : cs[p]? = some d) (hne : c ≠ d) : plcN cs (L.filter fun i => i != p) c = plcN cs L c := by
  unfold plcN
  rw [List.filter_filter]
  apply List.filter_congr
  intro i hi
  by_cases e : i = p
  · subst e; simp [hp]; exact fun e => hne e.symm
  · simp [e]
theorem plcN_same {cs : List Chg} {L : List Nat} {p : Nat} {d : Chg} (hn : L.Nodup) (hl : (plcN cs L d).getLast? = some p) : plcN cs (L.filter fun i => i != p) d = (plcN cs L d).dropLast := by
  have e : plcN cs (L.filter fun i => i != p) d = (plcN cs L d).filter fun i => i != p := by
    unfold plcN; rw [List.filter_filter, List.filter_filter]; apply List.filter_congr; intro i _; rw [Bool.and_comm]
  have hnd : (plcN cs L d).Nodup := hn.filter _
  rw [e]
  have hne : plcN cs L d ≠ [] := fun h => by rw [h] at hl; simp at hl
  have hk : (plcN cs L d).length - 1 < (plcN cs L d).length := by have := List.length_pos_iff.2 hne; omega
  have hp : (plcN cs L d)[(plcN cs L d).length - 1] = p := by
    rw [List.getLast?_eq_getElem?, List.getElem?_eq_getElem hk] at hl; simpa using hl
  have := filter_ne_erase hk hnd
  rw [hp] at this
  rw [this, List.eraseIdx_length_sub_one]
theorem plcN_last {cs : List Chg} {L : List Nat} {p : Nat} {d : Chg} (hl : (plcN cs L d).getLast? = some p) : p ∈ L ∧ cs[p]? = some d := by
  have := List.mem_of_getLast? hl
  unfold plcN at this
  obtain ⟨h1, h2⟩ := List.mem_filter.1 this
  exact ⟨h1, by simpa using h2⟩
/-- The marks after j rounds: which of the first j changes are out. -/
def outN (cs : List Chg) (j : Nat) : List Bool := (List.range cs.length).map fun i => decide (i < j) && !decide (i ∈ netP cs j)
theorem outN_len (cs : List Chg) (j : Nat) : (outN cs j).length = cs.length := by simp [outN]
theorem outN_get (cs : List Chg) (j i : Nat) (h : i < cs.length) : (outN cs j)[i]'(by rw [outN_len]; exact h) = (decide (i < j) && !decide (i ∈ netP cs j)) := by simp [outN]
theorem outN_zero (cs : List Chg) : outN cs 0 = List.replicate cs.length false := by
  apply List.ext_getElem
  · simp [outN]
  · intro i h1 h2; simp [outN]
theorem outN_keep {cs : List Chg} {j : Nat} (h : j < cs.length) (he : (plcN cs (netP cs j) (turnC cs[j])).getLast? = none) : outN cs (j + 1) = outN cs j := by
  unfold outN
  rw [netP_none h he]
  apply List.map_congr_left
  intro i _
  by_cases e : i = j
  · subst e; simp
  · have : decide (i < j + 1) = decide (i < j) := by congr 1; apply propext; constructor <;> intro <;> omega
    simp [this, e]
theorem outN_out {cs : List Chg} {j p : Nat} (h : j < cs.length) (he : (plcN cs (netP cs j) (turnC cs[j])).getLast? = some p) : outN cs (j + 1) = ((outN cs j).set j true).set p true := by
  obtain ⟨hp, _⟩ := plcN_last he
  have hpj := netP_lt cs j p hp
  apply List.ext_getElem
  · simp [outN]
  · intro i h1 h2
    rw [outN_len] at h1
    rw [outN_get cs (j + 1) i h1, netP_some h he, List.getElem_set, List.getElem_set, outN_get cs j i h1]
    by_cases e1 : p = i
    · subst e1; simp; omega
    · rw [if_neg e1]
      by_cases e2 : j = i
      · subst e2
        have : ¬ j ∈ netP cs j := fun hm => by have := netP_lt cs j j hm; omega
        simp [this]
      · rw [if_neg e2]
        have : decide (i < j + 1) = decide (i < j) := by congr 1; apply propext; constructor <;> intro <;> omega
        have e3 : ¬ i = p := fun e => e1 e.symm
        simp [this, e3]
/-- What of the first k changes is not out. -/
def keptN (cs : List Chg) (k : Nat) : List Chg := atP cs ((List.range k).filter fun i => decide (i ∈ netP cs cs.length))
theorem keptN_step {cs : List Chg} {k : Nat} (h : k < cs.length) : keptN cs (k + 1) = keptN cs k ++ (if k ∈ netP cs cs.length then [cs[k]] else []) := by
  unfold keptN
  rw [List.range_succ, List.filter_append]
  by_cases hm : k ∈ netP cs cs.length <;> simp [hm, atP, List.getElem?_eq_getElem h]
theorem outN_kept {cs : List Chg} {k : Nat} (h : k < cs.length) : (outN cs cs.length)[k]'(by rw [outN_len]; exact h) = !decide (k ∈ netP cs cs.length) := by
  rw [outN_get cs cs.length k h]; simp [h]
theorem sorted_range : ∀ (n : Nat) (L : List Nat), L.Pairwise (· < ·) → (∀ i ∈ L, i < n) → (List.range n).filter (fun i => decide (i ∈ L)) = L := by
  intro n L hs hl
  have h1 : ((List.range n).filter (fun i => decide (i ∈ L))).Pairwise (· < ·) := List.pairwise_lt_range.filter _
  have hp : ((List.range n).filter (fun i => decide (i ∈ L))).Perm L := by
    rw [List.perm_ext_iff_of_nodup (h1.imp (fun h => Nat.ne_of_lt h)) (hs.imp (fun h => Nat.ne_of_lt h))]
    intro a
    simp only [List.mem_filter, List.mem_range, decide_eq_true_eq]
    exact ⟨fun h => h.2, fun h => ⟨hl a h, h⟩⟩
  exact hp.eq_of_pairwise (fun a b _ _ h1 h2 => by omega) h1 hs
theorem keptN_all (cs : List Chg) : keptN cs cs.length = netL cs := by
  unfold keptN
  rw [sorted_range _ _ (netP_sorted cs cs.length) (fun i hi => (netP_lt cs cs.length i hi).1), netP_net cs cs.length (Nat.le_refl _), List.take_length]
end Go.Proofs.Ytgdeiecbkmhbeaa
