/- The program's index in memory, and the steps that build it. -/
import Derived.Test.YtafkpmjifgohcaaDoorHdrRead
import Derived.Test.YtafkpmjifgohcaaDoorRefOpenA
namespace Go.Proofs.YtafkpmjifgohcaaDoor
open Go.RowKit

theorem Tryd.infoEntry : (Tryd.prog.info? 80).map (fun i => (i.zero, i.size, i.bytes)) = some (some (.agg #[.int .i64 0, .int .i64 0, .int .i64 0, .bool false, .int .i64 0, .int .u32 0]), 6, 48) := by kernel_rfl

/-- An entry's cells. -/
def Sk.cells6 (s : List UInt8) (b : Sk.Blk) : List Value := [.int .i64 b.frm, .int .i64 b.size, .int .i64 b.pos, .bool b.fresh, .int .i64 (Sk.numAt s (b.pos + 3) 2), .int .u32 (Sk.numAt s (b.pos + 5) 4)]
def Sk.cellsE (s : List UInt8) (bs : List Sk.Blk) : List Value := bs.flatMap (Sk.cells6 s)
theorem Sk.cellsE_snoc (s : List UInt8) (bs : List Sk.Blk) (b : Sk.Blk) : Sk.cellsE s (bs ++ [b]) = Sk.cellsE s bs ++ Sk.cells6 s b := by
  simp [Sk.cellsE]

/-- An index in memory. -/
structure IFile (w : World) (B g : Nat) (s : List UInt8) (v : Value) (bs : List Sk.Blk) (d : Nat) : Prop where
  blk : w.heap[g]? = some (.cells #[v, .int .i64 d] 39 (0, 0))
  low : B ≤ g
  row : Rw w 6 v bs.length (Sk.cellsE s bs)
  rowLow : ∀ k, v.ownBlock = some k → B ≤ k ∧ k ≠ g

section
variable {w w' : World} {B g : Nat} {s : List UInt8} {v : Value} {bs : List Sk.Blk} {d : Nat}
theorem IFile.lt (h : IFile w B g s v bs d) : g < w.heap.size := by
  rcases Nat.lt_or_ge g w.heap.size with h' | h'
  · exact h'
  · have := h.blk; simp [Array.getElem?_eq_none h'] at this
theorem IFile.cell (h : IFile w B g s v bs d) (j : Nat) : w.cell? ⟨g, j, none⟩ = (#[v, .int .i64 d] : Array Value)[j]? := by
  simp [World.cell?, h.blk]
theorem IFile.free (h : IFile w B g s v bs d) (j : Nat) : w.frozen? ⟨g, j, none⟩ = false := by
  simp [World.frozen?, h.blk]
theorem IFile.below (h : IFile w B g s v bs d) (hb : Below w.heap.size w w') : IFile w' B g s v bs d :=
  ⟨by rw [hb.block g h.lt]; exact h.blk, h.low, h.row.below hb, h.rowLow⟩
theorem IFile.data (h : IFile w B g s v bs d) (d' : Nat) (i : Int) (hi : i = d') : IFile (w.setCell ⟨g, 1, none⟩ (.int .i64 i)) B g s v bs d' := by
  subst hi
  refine ⟨?_, h.low, h.row.kept (by simp) (fun k hk => heap_setCell_ne _ _ _ _ (h.rowLow k hk).2), h.rowLow⟩
  show (w.heap.modify g _)[g]? = _
  rw [Array.getElem?_modify, if_pos rfl, h.blk]
  rfl
theorem IFile.more {w1 : World} {g1 cap : Nat} (b : Sk.Blk) (h : IFile w B g s v bs d) (hB : B ≤ w.heap.size) (hr : Rw w1 6 (.slice (some ⟨g1, 0, none⟩) (bs.length + 1) cap) (bs.length + 1) (Sk.cellsE s bs ++ Sk.cells6 s b))
    (hg : Gr w v w1 (.slice (some ⟨g1, 0, none⟩) (bs.length + 1) cap)) : IFile (w1.setCell ⟨g, 0, none⟩ (.slice (some ⟨g1, 0, none⟩) (bs.length + 1) cap)) B g s (.slice (some ⟨g1, 0, none⟩) (bs.length + 1) cap) (bs ++ [b]) d := by
  have hne : g1 ≠ g := fun e => by
    rcases hg.own with ho | ⟨k, ho, hk⟩
    · exact (h.rowLow g1 ho.symm).2 e
    · cases ho; have := h.lt; have hk' : w.heap.size ≤ g1 := hk; omega
  have hlow : B ≤ g1 := by
    rcases hg.own with ho | ⟨k, ho, hk⟩
    · exact (h.rowLow g1 ho.symm).1
    · cases ho; have hk' : w.heap.size ≤ g1 := hk; omega
  refine ⟨?_, h.low, ?_, fun k hk => by cases hk; exact ⟨hlow, hne⟩⟩
  · show (w1.heap.modify g _)[g]? = _
    rw [Array.getElem?_modify, if_pos rfl, hg.block g h.lt (fun e => (h.rowLow g e.symm).2 rfl), h.blk]
    rfl
  · rw [Sk.cellsE_snoc, List.length_append]
    exact hr.kept (by simp) (fun k hk => by cases hk; exact heap_setCell_ne _ _ _ _ hne)
theorem IFile.after {v' : Value} (h : IFile w B g s v bs d) (hg : Gr w v w' v') : w'.cell? ⟨g, 0, none⟩ = some v ∧ w'.cell? ⟨g, 1, none⟩ = some (.int .i64 d) ∧ w'.frozen? ⟨g, 0, none⟩ = false ∧ w'.frozen? ⟨g, 1, none⟩ = false := by
  have hb : w'.heap[g]? = some (.cells #[v, .int .i64 d] 39 (0, 0)) := by
    rw [hg.block g h.lt (fun e => (h.rowLow g e.symm).2 rfl)]
    exact h.blk
  exact ⟨by simp [World.cell?, hb], by simp [World.cell?, hb], by simp [World.frozen?, hb], by simp [World.frozen?, hb]⟩
end

set_option maxHeartbeats 800000 in
theorem mayFollow_any (w : World) (B g : Nat) (s : List UInt8) (v : Value) (bs : List Sk.Blk) (d : Nat) (fr : Bool) (n m x : Nat) (h : IFile w B g s v bs d) (hd : d ≤ 20000) (hn : n ≤ 1024) :
    Calls Tryd.prog 59 #[.pointer (some ⟨g, 0, none⟩), .agg #[.bool fr, .int .i64 n, .int .i64 m, .int .u32 x]] w fun e w' => e = .returned (.bool ((fr || !((bs.length : Int) == 0)) && decide ((d : Int) + n ≤ 20000))) ∧ Below w.heap.size w w' := by
  obtain ⟨vo, vcap, rfl⟩ := h.row.form
  have hlt := h.lt
  have h' := h.below ((Below.refl w.heap.size w).alloc (Nat.le_refl _) (.cells #[.bool fr, .int .i64 n, .int .i64 m, .int .u32 x] 105))
  have c0 := h'.cell 0
  have c1 := h'.cell 1
  simp at c0 c1
  clear h h'
  cases fr
  · by_cases hl : bs.length = 0
    · have e0 : ((bs.length : Int) == 0) = true := by rw [hl]; rfl
      clear hl
      go_enter Tryd.func59, Tryd.ntmps59
      go_wp2_with fail
      go_quiet (fail)
      go_wp2
      go_ret
      exact ⟨by simp [e0], below_drewN ((Below.refl _ _).alloc (Nat.le_refl _) _) _⟩
    · have e0 : ((bs.length : Int) == 0) = false := by rw [beq_eq_false_iff_ne]; omega
      clear hl
      go_enter Tryd.func59, Tryd.ntmps59
      go_wp2_with fail
      go_quiet (fail)
      go_wp2
      go_ret
      exact ⟨by simp [e0], below_drewN ((Below.refl _ _).alloc (Nat.le_refl _) _) _⟩
  · go_enter Tryd.func59, Tryd.ntmps59
    go_wp2_with fail
    go_quiet (fail)
    go_wp2
    go_ret
    exact ⟨by simp, below_drewN ((Below.refl _ _).alloc (Nat.le_refl _) _) _⟩
end Go.Proofs.YtafkpmjifgohcaaDoor
