/- Arrays of ints as keys of maps: how such a key reads, and a map from keys to the places of those found. -/
import Derived.Test.YtmaagihfjldgeaaA1
import Derived.Test.YtmaagihfjldgeaaA3
import Derived.Test.YtmaagihfjldgeaaOpenI
import Derived.DeepKeys4
namespace Go.Proofs.Ytmaagihfjldgeaa
set_option maxRecDepth 100000
open Go.ChangeShapes Go.WideShapes Go.ChangeAt Go.RowKit Go.Maps
set_option linter.unusedVariables false
set_option linter.unusedSimpArgs false

/-- The cells of an array of ints. -/
def sgA (xs : List Int) : Array Value := (xs.map icell).toArray
theorem sgA_size (xs : List Int) : (sgA xs).size = xs.length := by simp [sgA]
theorem sgA_at (xs : List Int) (k : Nat) (h : k < xs.length) : (sgA xs)[k]? = some (.int .i64 xs[k]) := by simp [sgA, h, icell]
theorem sgA_one (xs : List Int) : (sgA xs).all (·.oneCell') = true := by
  rw [Array.all_eq_true_iff_forall_mem]
  intro x hx
  unfold sgA at hx
  rw [List.mem_toArray, List.mem_map] at hx
  obtain ⟨k, _, rfl⟩ := hx
  rfl
theorem sgA_set (xs : List Int) (k : Nat) (z : Int) : (sgA xs).setIfInBounds k (.int .i64 z) = sgA (xs.set k z) := by
  unfold sgA
  rw [List.setIfInBounds_toArray, List.map_set]; rfl
theorem wpList_store_blkS {ops : Array Oper} {rest : List Oper} {o : Oper} {a : Act} {w : World} {Q : Exit → Act → World → Prop} (hgd : o.guard = none) (ty : TypeId) (x y : Operand) (ho : o.op = .store ty x y)
    (g : Nat) (cells : Array Value) (hx : a.eval x = .pointer (some ⟨g, 0, none⟩)) (hy : a.eval y = .agg cells) (t : TypeId) (old : Array Value) (hB : Blk w g t old) (hi : (Try.prog.info? ty).map (·.size) = some cells.size)
    (hold : old.size = cells.size) (h1 : cells.all (·.oneCell') = true) (h : wpList Try.prog ops Q rest (a.put o.dst undef) (w.setRow g cells)) : wpList Try.prog ops Q (o :: rest) a w :=
  wpList_plain hgd fun _ hK => wp_store_row ty x y ho g cells hx hy t old hB hi hold h1 (hK _ _ h)
theorem Blk.setRowS {w : World} {g : Nat} {t : TypeId} {cs : Array Value} (h : Blk w g t cs) (ds : Array Value) : Blk (w.setRow g ds) g t ds := setRow_heap w g cs ds t (0, 0) h
theorem Since.setRowS {w w' : World} (h : Since w w') {g : Nat} (hg : w.heap.size ≤ g) (cs : Array Value) : Since w (w'.setRow g cs) := below_setRow h hg cs
theorem mapM_someS {α β : Type} {f : α → Option β} {g : α → β} : ∀ (l : List α), (∀ i ∈ l, f i = some (g i)) → l.mapM f = some (l.map g)
  | [], _ => by simp
  | a :: l, h => by
    rw [List.mapM_cons, h a (by simp), mapM_someS l (fun i hi => h i (by simp [hi]))]; rfl
theorem flatten_ones {α β : Type} (g : α → β) : ∀ l : List α, (l.map fun i => [g i]).flatten = l.map g
  | [] => rfl
  | a :: l => by simp [flatten_ones g l]
theorem range_getD {β : Type} (g : Int → β) (xs : List Int) (m : Nat) (h : xs.length = m) : (List.range m).map (fun i => g (xs[i]?.getD 0)) = xs.map g := by
  apply List.ext_getElem
  · simp [h]
  · intro i h1 h2
    simp only [List.length_map] at h2
    simp [h2]
theorem icells_inj : ∀ {xs ys : List Int}, xs.map icell = ys.map icell → xs = ys
  | [], [], _ => rfl
  | [], y :: ys, h => by simp at h
  | x :: xs, [], h => by simp at h
  | x :: xs, y :: ys, h => by
    simp only [List.map_cons, List.cons.injEq] at h
    obtain ⟨h1, h2⟩ := h
    unfold icell at h1
    injection h1 with _ h1
    rw [h1, icells_inj h2]
/-- What a key is: of one length, of numbers that an int holds. -/
def OkS (m : Nat) (xs : List Int) : Prop := xs.length = m ∧ ∀ x ∈ xs, InI x
/-- A type whose values are arrays of m ints. -/
structure ArrT (T : TypeId) (m : Nat) : Prop where
  und : Try.prog.underlying T = some (.array m 3)
  cells : Try.prog.cellsOf T = m
  one : Try.prog.cellsOf 3 = 1
  law : Keyed Try.prog T
  key : Try.prog.keyType T = true
  size : (Try.prog.info? T).map (·.size) = some m
theorem keyed_arr {T : TypeId} {m : Nat} (hrow : T < Try.prog.types.size) (hk : Try.prog.keyTypeAt 2 T = true) (hu : Try.prog.underlying T = some (.array m 3)) : Keyed Try.prog T :=
  Keyed.of_law (deep_law_laid laid_outI (m := 2) (by decide) hrow hk (by rw [hu]))
noncomputable def kyG (T : TypeId) (xs : List Int) : Lit := (keyOf Try.prog T (.agg (sgA xs))).getD (.bool true)
theorem types_two : ∃ d, Try.prog.types.size + 1 = d + 1 + 1 := by
  have h : 1 ≤ Try.prog.types.size := by decide +kernel
  exact ⟨Try.prog.types.size - 1, by omega⟩
section
variable {T : TypeId} {m : Nat} (H : ArrT T m)
include H
theorem ArrT.keyOf {xs : List Int} (h : OkS m xs) : Go.keyOf Try.prog T (.agg (sgA xs)) = some (kyG T xs) := by
  have hsome : ∃ l, Go.keyOf Try.prog T (.agg (sgA xs)) = some l := by
    obtain ⟨d, hd⟩ := types_two
    have hint := Try.underlying3
    have hform : (Value.agg (sgA xs)).formed Try.prog T = true := by
      simp [Value.formed, H.und, H.cells, sgA_size, h.1]
    have hcs : (Value.agg (sgA xs)).cells.toList = xs.map icell := by simp [Value.cells, sgA]
    have hL : Try.prog.keyLits (d + 1 + 1) T (xs.map icell) = some (xs.map (fun x => Lit.int .i64 x)) := by
      unfold Program.keyLits
      simp only [H.und, H.cells, H.one, List.length_map, h.1, if_true]
      rw [mapM_someS (g := fun i => [Lit.int .i64 (xs[i]?.getD 0)]) (List.range m) (fun i hi => by
        have hi2 : i < xs.length := by rw [h.1]; exact List.mem_range.1 hi
        have e : ((xs.map icell).drop (i * 1)).take 1 = [Value.int .i64 xs[i]] := by
          rw [Nat.mul_one, List.drop_eq_getElem_cons (by simpa using hi2), List.take_succ_cons, List.take_zero]
          simp [icell]
        rw [e]
        have hw : (Lit.int .i64 xs[i]).wf = true := wf_in (h.2 _ (List.getElem_mem hi2))
        unfold Program.keyLits
        simp [hint, hw, hi2])]
      simp only [Option.map_some]
      rw [flatten_ones, range_getD (fun z => Lit.int .i64 z) xs m h.1]
    refine ⟨.string (keyBytes (xs.map (fun x => Lit.int .i64 x))), ?_⟩
    unfold Go.keyOf
    simp only [H.und, H.key, hform, hcs, hd, hL, Bool.and_self, if_true, Option.map_some]
  obtain ⟨l, hl⟩ := hsome
  unfold kyG
  rw [hl]; rfl
theorem ArrT.isKey {xs : List Int} (h : OkS m xs) : WideAt.IsKeyLit (kyG T xs) := H.law.key (H.keyOf h)
theorem ArrT.inj {xs ys : List Int} (h1 : OkS m xs) (h2 : OkS m ys) (e : kyG T xs = kyG T ys) : xs = ys := by
  have a := H.keyOf h1
  have b := H.keyOf h2
  rw [e] at a
  have c := H.law.inj a b
  injection c with c
  unfold sgA at c
  have c2 := congrArg Array.toList c
  simp only [List.toList_toArray] at c2
  exact icells_inj c2
end
/-- D holds the keys of fs, each with its place. -/
structure NumG (T : TypeId) (m : Nat) (fs : List (List Int)) (D : DU) : Prop where
  ok : ∀ x ∈ fs, OkS m x
  tidy : Maps.Tidy D
  size : Maps.size D = fs.length
  has : ∀ x, OkS m x → Maps.has D (kyG T x) = decide (x ∈ fs)
  at' : ∀ i (h : i < fs.length) z, D.atKey (kyG T fs[i]) z = .lit (.int .i64 (i : Int))
theorem NumG.nil (T : TypeId) (m : Nat) : NumG T m [] (.map [] : DU) := ⟨fun x hx => by simp at hx, Maps.tidy_empty, rfl, fun x _ => rfl, fun i h => by simp at h⟩
theorem NumG.snoc {T : TypeId} {m : Nat} (H : ArrT T m) {fs : List (List Int)} {D : DU} (h : NumG T m fs D) {x : List Int} (hok : OkS m x) (hx : x ∉ fs) : NumG T m (fs ++ [x]) (D.put (kyG T x) (.lit (.int .i64 (fs.length : Int)))) := by
  have hne : ∀ {y : List Int}, OkS m y → y ≠ x → kyG T y ≠ kyG T x := fun hy e k => e (H.inj hy hok k)
  refine ⟨fun y hy => ?_, h.tidy.put (H.isKey hok) _, ?_, fun y hy => ?_, fun i hi z => ?_⟩
  · rcases List.mem_append.1 hy with hy | hy
    · exact h.ok y hy
    · simp at hy; subst hy; exact hok
  · rw [Maps.size_put h.tidy, h.has x hok]
    simp [hx, h.size]
  · by_cases e : y = x
    · subst e; rw [Maps.has_put_same h.tidy.isMap (H.isKey hok)]; simp
    · rw [Maps.has_put_other (hne hy e), h.has y hy]; simp [e]
  · by_cases e : i < fs.length
    · rw [List.getElem_append_left e]
      have hne2 : fs[i] ≠ x := fun k => hx (by rw [← k]; exact List.getElem_mem e)
      rw [Maps.atKey_put_other (hne (h.ok _ (List.getElem_mem e)) hne2), h.at' i e z]
    · have e2 : i = fs.length := by simp at hi; omega
      subst e2
      have : (fs ++ [x])[fs.length] = x := by rw [List.getElem_append_right (Nat.le_refl _)]; simp
      rw [this, Maps.atKey_put_same h.tidy.isMap (H.isKey hok)]
theorem NumG.val {T : TypeId} {m : Nat} {fs : List (List Int)} {D : DU} (h : NumG T m fs D) {x : List Int} (hx : x ∈ fs) {c : Int} {z : DU} (hc : D.atKey (kyG T x) z = .lit (.int .i64 c)) : c = (posG fs x : Int) := by
  have h1 := h.at' (posG fs x) (posG_lt fs x hx) z
  rw [posG_get fs x hx, hc] at h1
  injection h1 with h1
  injection h1 with _ h1
end Go.Proofs.Ytmaagihfjldgeaa
