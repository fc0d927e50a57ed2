/- strings.Builder: what is written leaves blocks of other types as they were. -/
import Derived.Test.YtilkheclimammaaDoorBld
import Derived.Test.YtilkheclimammaaDoorK1
namespace Go.Proofs.YtilkheclimammaaDoor
set_option maxRecDepth 100000
open Go.ChangeShapes Go.WideShapes Go.ChangeAt Go.RowKit
set_option linter.unusedVariables false
set_option linter.unusedSimpArgs false

/-- Blocks of other types than a builder's and its buffer's are as they were. -/
def Kept (w w' : World) : Prop := ∀ (k : Nat) (cs : Array Value) (T : TypeId) (fz : Nat × Nat), w.heap[k]? = some (.cells cs T fz) → T ≠ 47 → T ≠ 5 → w'.heap[k]? = w.heap[k]?
theorem Blk.kept {w w' : World} {g : Nat} {t : TypeId} {cs : Array Value} (h : Blk w g t cs) (k : Kept w w') (h1 : t ≠ 47) (h2 : t ≠ 5) : Blk w' g t cs := (k g _ _ _ h h1 h2).trans h
theorem check_kept (B b : Nat) (bs : List Value) (w : World) (h : IsB B b bs w) :
    Calls Tryd.prog 32 #[.pointer (some ⟨b, 0, none⟩)] w fun e w' => e = .returned (.tuple #[]) ∧ UsedB B b bs w' ∧ Below B w w' ∧ Kept w w' := by
  rcases h with h | h
  · have hblk := h
    refine (check_fresh b w h.cell0 h.shape h.frozen0).mono ?_
    rintro e w' ⟨rfl, rfl⟩
    refine ⟨rfl, h.used _, (Below.refl B w).setCell (p := ⟨b, 0, none⟩) h.1 _, ?_⟩
    obtain ⟨hB, v, hbk, _, _⟩ := hblk
    intro k cs T fz hk h1 h2
    refine Below.heap_setCell w ⟨b, 0, none⟩ _ k (fun e => ?_)
    have e' : k = b := e
    subst e'
    rw [hbk] at hk
    injection hk with hk
    injection hk with _ hk _
    exact h1 hk.symm
  · refine (check_used b w h.cell0).mono ?_
    rintro e w' ⟨rfl, rfl⟩
    exact ⟨rfl, h, Below.refl B _, fun _ _ _ _ _ _ _ => rfl⟩
def WroteK (B b : Nat) (bs : List Value) (s : ByteArray) (w : World) (e : Ending) (w' : World) : Prop := e = .returned (.tuple #[.int .i64 s.size, .nilIface]) ∧ UsedB B b (bs ++ Lib.strCells s) w' ∧ Below B w w' ∧ Kept w w'
set_option maxHeartbeats 1000000 in
theorem write_kept (B b : Nat) (bs : List Value) (s : ByteArray) (w : World) (h : IsB B b bs w) (hlen : bs.length + s.size ≤ 140737488355328) (hBw : B ≤ w.heap.size) :
    Calls Tryd.prog 19 #[.pointer (some ⟨b, 0, none⟩), .string s] w (WroteK B b bs s w) := by
  obtain ⟨i0, hi, hz0, hz1, hz2⟩ := info_parts info_byteB
  have HZ2 := Lib.hid hz2
  go_enter Tryd.func19, Tryd.ntmps19
  go_wp2_with fail
  refine (check_kept B b bs _ h).mono ?_
  rintro e w1 ⟨rfl, h1, hb1, hk1⟩
  obtain ⟨hB, v, hbk, hown, hne⟩ := h1
  have c0 : w1.cell? ⟨b, 0, none⟩ = some (.pointer (some ⟨b, 0, none⟩)) := by rw [Lib.cell_of_heap hbk]; rfl
  have c1 : w1.cell? ⟨b, 1, none⟩ = some v := by rw [Lib.cell_of_heap hbk]; rfl
  go_wp2_with (at_builtin; refine Lib.wpList_append_own_string _ rfl _ _ 45 9 rfl B 5 i0 Tryd.underlying45 Tryd.underlying9 hi hz0 hz1 hz2 _ _ _ rfl hown s rfl ?c3 ?c4 ?c5 ?_)
  case c3 => unfold maxLen; omega
  case c4 => omega
  case c5 => have := hb1.size; omega
  intro v' w2 hown' hgrow _
  have hlt : b < w1.heap.size := heap_lt' hbk
  have hb2 : w2.heap[b]? = some (.cells #[.pointer (some ⟨b, 0, none⟩), v] 47 (0, 0)) := by
    rw [hgrow.block b hlt (fun e => hne e.symm)]
    exact hbk
  have d0 : w2.cell? ⟨b, 0, none⟩ = some (.pointer (some ⟨b, 0, none⟩)) := by rw [Lib.cell_of_heap hb2]; rfl
  have d1 : w2.cell? ⟨b, 1, none⟩ = some v := by rw [Lib.cell_of_heap hb2]; rfl
  have f1 : w2.frozen? ⟨b, 1, none⟩ = false := Lib.frozen_of_heap hb2 1
  obtain ⟨ao, n', cap, rfl⟩ : ∃ ao n' cap, v' = .slice ao n' cap := by
    rcases hown'.2 with ⟨hv, _⟩ | ⟨g, cap, cur, hv, _⟩
    · exact ⟨_, _, _, hv⟩
    · exact ⟨_, _, _, hv⟩
  go_wp2
  go_ret2
  refine ⟨rfl, ?_, ?_, ?_⟩
  · exact Lib.BuilderAt.put (T := 47) (e := 5) hB hb2 (bs' := bs ++ Lib.strCells s) (by simpa [Lib.strCells_length] using hown') (by decide)
  · exact (hb1.grown hgrow (by have := hb1.size; omega) (fun k hk => (hown.lt k hk).1)).setCell (p := ⟨b, 1, none⟩) hB _
  · intro k cs T fz hk n1 n2
    have hk2 := (hk1 k cs T fz hk n1 n2).trans hk
    have hkb : k ≠ b := by
      intro e
      subst e
      rw [hbk] at hk2
      injection hk2 with hk2
      injection hk2 with _ hk2 _
      exact n1 hk2.symm
    have hkv : v.ownBlock ≠ some k := other_type hown hk2 (fun e => n2 e.symm)
    have hk3 := hgrow.block k (heap_lt' hk2) (fun e => hkv e.symm)
    exact ((Below.heap_setCell w2 ⟨b, 1, none⟩ _ k hkb).trans hk3).trans (hk1 k cs T fz hk n1 n2)
end Go.Proofs.YtilkheclimammaaDoor
