/- Rows in memory: small facts. -/
import Derived.Test.YtafkpmjifgohcaaDoorRow
namespace Go.Proofs.YtafkpmjifgohcaaDoor
open Go.RowKit

theorem Rw.some_of {w : World} {sz n cap : Nat} {vo : Option Addr} {xs : List Value} (h : Rw w sz (.slice vo n cap) n xs) (hn : 0 < n) : ∃ g, vo = some ⟨g, 0, none⟩ := by
  rcases h.2 with ⟨_, h0⟩ | ⟨g, c, e, _⟩
  · omega
  · cases e; exact ⟨g, rfl⟩

theorem Rw.there {w : World} {sz n g cap : Nat} {xs : List Value} (h : Rw w sz (.slice (some ⟨g, 0, none⟩) n cap) n xs) (j : Nat) (hj : j < n * sz) : ∃ v, w.cell? ⟨g, j, none⟩ = some v ∧ w.frozen? ⟨g, j, none⟩ = false := by
  have hl := h.1
  rcases h.2 with ⟨e, _⟩ | ⟨g', cap', e, h1, _, _, h3, h4⟩
  · cases e
  · cases e
    have := Nat.mul_le_mul_right sz h1
    exact ⟨_, h4 j (by omega), h3 j (by omega)⟩

theorem Tryd.infoI : (Tryd.prog.info? 3).map (fun i => (i.zero, i.size, i.bytes)) = some (some (.int .i64 0), 1, 8) := by kernel_rfl
theorem Tryd.infoBl : (Tryd.prog.info? 45).map (fun i => (i.zero, i.size, i.bytes)) = some (some (.agg #[.int .i64 0, .int .i64 0, .int .i64 0, .bool false]), 4, 32) := by kernel_rfl

end Go.Proofs.YtafkpmjifgohcaaDoor
