/- Strings made of bytes: 'string([]byte{b})' and 'string(row)'. -/
import Derived.Test.YtblmiocjhbpklaaDoorK0
import Derived.Laws.IdiomStrings
import Derived.Lib.OthersKept
namespace Go.Proofs.YtblmiocjhbpklaaDoor
set_option maxRecDepth 100000
open Go.ChangeShapes Go.WideShapes Go.ChangeAt Go.RowKit

theorem one_byte (w : World) (v : Int) :
    (convert 22 9 (.slice (some ⟨w.heap.size, 0, none⟩) 1 1)).run Tryd.prog (w.alloc (.cells #[.int .u8 v] 5))
      = .ok (.string ⟨#[UInt8.ofNat v.toNat]⟩) (w.alloc (.cells #[.int .u8 v] 5)) := by
  rw [run_convert_bytes_string _ 22 9 5 _ _ _ Tryd.underlying22 Tryd.underlying5 Tryd.underlying9]
  have hl := run_loadCells_list (P := Tryd.prog) (w.alloc (.cells #[.int .u8 v] 5)) ⟨w.heap.size, 0, none⟩ [.int .u8 v] (fun j u hj => by
    match j, hj with
    | 0, hj => simp at hj; subst hj; simp [Addr.add])
  rw [run_bytesToString _ _ 1 1 [v] (by simpa using hl)]
  rfl

theorem Since.iterAt {w w' : World} (h : Since w w') {k : Nat} (hk : w.heap.size ≤ k) (s : ByteArray) (p : Nat) : Since w (w'.iterAt k s p) := Lib.below_iterAt h hk s p
/-- A byte as a cell. -/
def bcell (b : UInt8) : Value := .int .u8 (b.toNat : Int)
theorem info_u8 : (Tryd.prog.info? 5).map (fun i => (i.zero, i.size, i.bytes)) = some (some (.int .u8 0), 1, 1) := by kernel_rfl

/-- 'string(row)' of a row of bytes of the call's own. -/
theorem row_string (w : World) {base g n cap : Nat} {xs : List Value} (h : w.ownsRow base 5 1 (.slice (some ⟨g, 0, none⟩) n cap) n xs) (l : List UInt8) (hx : xs = l.map bcell) :
    (convert 22 9 (.slice (some ⟨g, 0, none⟩) n cap)).run Tryd.prog w = .ok (.string ⟨l.toArray⟩) w := by
  have hn : l.length = n := by have := h.1; rw [hx] at this; simpa using this
  subst hn
  refine run_convert_bytes_back w 22 9 5 ⟨g, 0, none⟩ cap l Tryd.underlying22 Tryd.underlying5 Tryd.underlying9 fun j hj => ?_
  have := h.cellAt j (by simpa using hj)
  rw [show (⟨g, 0, none⟩ : Addr).add j = ⟨g, j, none⟩ from by by_cases h0 : j = 0 <;> simp [Addr.add, h0], this, hx, List.getElem?_map, List.getElem?_eq_getElem hj]
  rfl

theorem bcell_ofNat (c : Nat) (h : c < 256) : bcell (UInt8.ofNat c) = .int .u8 (c : Int) := by
  unfold bcell
  congr 1
  rw [UInt8.toNat_ofNat', Nat.mod_eq_of_lt (by omega)]
theorem map_bcell_snoc (l : List UInt8) (c : Nat) (x : Int) (h : c < 256) (hx : x = (c : Int)) : l.map bcell ++ [.int .u8 x] = (l ++ [UInt8.ofNat c]).map bcell := by
  rw [List.map_append, List.map_cons, List.map_nil, bcell_ofNat c h, hx]
/-- 'string(v)' of a row of bytes of the call's own, nil or not. -/
theorem own_string (w : World) {base n : Nat} {v : Value} {xs : List Value} (h : w.ownsRow base 5 1 v n xs) (l : List UInt8) (hx : xs = l.map bcell) :
    (convert 22 9 v).run Tryd.prog w = .ok (.string ⟨l.toArray⟩) w := by
  rcases h.2 with ⟨hv, hn⟩ | ⟨g, cap, cur, hv, _⟩
  · subst hv
    have hl : l = [] := by
      have := h.1; rw [hx, hn] at this; simpa using this
    subst hl
    rw [run_convert_bytes_string w 22 9 5 none 0 0 Tryd.underlying22 Tryd.underlying5 Tryd.underlying9]
    rfl
  · subst hv
    exact row_string w h l hx
end Go.Proofs.YtblmiocjhbpklaaDoor
