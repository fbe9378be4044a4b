/- The blocks in a list of them. -/
import Derived.Test.YtafkpmjifgohcaaDoorFileBlocks
namespace Go.Proofs.YtafkpmjifgohcaaDoor
open Go.RowKit

theorem Sk.cellsOf_get : ∀ (bs : List Sk.Blk) (k j : Nat), k < bs.length → j < 4 → (Sk.cellsOf bs)[k * 4 + j]? = (Sk.bk bs k).cells[j]?
  | [], k, _, h, _ => absurd h (Nat.not_lt_zero k)
  | b :: bs, 0, j, _, hj => by
    show (b.cells ++ Sk.cellsOf bs)[0 * 4 + j]? = _
    rw [Nat.zero_mul, Nat.zero_add, List.getElem?_append_left (by simp [Sk.Blk.cells]; omega)]
    rfl
  | b :: bs, k + 1, j, h, hj => by
    show (b.cells ++ Sk.cellsOf bs)[(k + 1) * 4 + j]? = _
    rw [List.getElem?_append_right (by simp [Sk.Blk.cells]; omega), show (k + 1) * 4 + j - b.cells.length = k * 4 + j by simp [Sk.Blk.cells]; omega]
    exact Sk.cellsOf_get bs k j (by simpa using h) hj

/-- The cells of one block in a list of them. -/
theorem Rw.blk {w : World} {lo : Option Addr} {cap : Nat} {bs : List Sk.Blk} (h : Rw w 4 (.slice lo bs.length cap) bs.length (Sk.cellsOf bs)) (k : Nat) (hk : k < bs.length) :
    ∃ a, lo = some ⟨a, 0, none⟩ ∧ ∀ j, j < 4 → w.cell? ⟨a, k * 4 + j, none⟩ = (Sk.bk bs k).cells[j]? := by
  obtain ⟨a, rfl⟩ := h.some_of (by omega)
  refine ⟨a, rfl, fun j hj => ?_⟩
  have hl := Sk.cellsOf_length bs
  rw [h.cell (k * 4 + j) (by omega), ← Sk.cellsOf_get bs k j hk hj, List.getElem?_eq_getElem (by omega)]

end Go.Proofs.YtafkpmjifgohcaaDoor
