/- The document's file in memory, and what Open's steps make of it. -/
import Derived.Test.YtafkpmjifgohcaaDoorRow
import Derived.Test.YtafkpmjifgohcaaDoorPureOpen
import Derived.Deep.DeepCutAuto
import Derived.Deep.RegionLaw
namespace Go.Proofs.YtafkpmjifgohcaaDoor
open Go.RowKit

theorem Tryd.infoBlock : (Tryd.prog.info? 45).map (fun i => (i.zero, i.size, i.bytes)) = some (some (.agg #[.int .i64 0, .int .i64 0, .int .i64 0, .bool false]), 4, 32) := by kernel_rfl

/-- A file of the document's in memory. -/
structure RFile (w : World) (B g : Nat) (s : ByteArray) (v : Value) (bs : List Sk.Blk) (d : Nat) : Prop where
  blk : w.heap[g]? = some (.cells #[.string s, v, .int .i64 d] 67 (0, 0))
  low : B ≤ g
  row : Rw w 4 v bs.length (Sk.cellsOf bs)
  rowLow : ∀ k, v.ownBlock = some k → B ≤ k ∧ k ≠ g

theorem RFile.lt {w : World} {B g : Nat} {s : ByteArray} {v : Value} {bs : List Sk.Blk} {d : Nat} (h : RFile w B g s v bs d) : g < w.heap.size := by
  rcases Nat.lt_or_ge g w.heap.size with h' | h'
  · exact h'
  · have := h.blk; simp [Array.getElem?_eq_none h'] at this
theorem RFile.cell {w : World} {B g : Nat} {s : ByteArray} {v : Value} {bs : List Sk.Blk} {d : Nat} (h : RFile w B g s v bs d) (j : Nat) : w.cell? ⟨g, j, none⟩ = (#[.string s, v, .int .i64 d] : Array Value)[j]? := by
  simp [World.cell?, h.blk]
theorem RFile.free {w : World} {B g : Nat} {s : ByteArray} {v : Value} {bs : List Sk.Blk} {d : Nat} (h : RFile w B g s v bs d) (j : Nat) : w.frozen? ⟨g, j, none⟩ = false := by
  simp [World.frozen?, h.blk]

theorem Rw.form {w : World} {sz n : Nat} {v : Value} {xs : List Value} (h : Rw w sz v n xs) : ∃ vo cap, v = .slice vo n cap := by
  rcases h.2 with ⟨rfl, rfl⟩ | ⟨g, cap, rfl, _⟩
  · exact ⟨none, 0, rfl⟩
  · exact ⟨_, cap, rfl⟩

theorem RFile.below {w w' : World} {B g : Nat} {s : ByteArray} {v : Value} {bs : List Sk.Blk} {d : Nat} (h : RFile w B g s v bs d) (hb : Below w.heap.size w w') : RFile w' B g s v bs d :=
  ⟨by rw [hb.block g h.lt]; exact h.blk, h.low, h.row.below hb, h.rowLow⟩

theorem heap_setCell_ne (w : World) (a : Addr) (x : Value) (k : Nat) (h : k ≠ a.block) : (w.setCell a x).heap[k]? = w.heap[k]? := by
  show (w.heap.modify a.block _)[k]? = _
  rw [Array.getElem?_modify, if_neg (Ne.symm h)]

theorem RFile.data {w : World} {B g : Nat} {s : ByteArray} {v : Value} {bs : List Sk.Blk} {d : Nat} (h : RFile w B g s v bs d) (d' : Nat) (i : Int) (hi : i = d') : RFile (w.setCell ⟨g, 2, none⟩ (.int .i64 i)) B g s v bs d' := by
  subst hi
  refine ⟨?_, h.low, h.row.kept (by simp) (fun k hk => heap_setCell_ne _ _ _ _ (h.rowLow k hk).2), h.rowLow⟩
  show (w.heap.modify g _)[g]? = _
  rw [Array.getElem?_modify, if_pos rfl, h.blk]
  rfl

/-- A block is put behind the others. -/
theorem RFile.more {w w1 : World} {B g : Nat} {s : ByteArray} {v : Value} {bs : List Sk.Blk} {d g1 cap : Nat} (b : Sk.Blk) (h : RFile w B g s v bs d) (hB : B ≤ w.heap.size) (hr : Rw w1 4 (.slice (some ⟨g1, 0, none⟩) (bs.length + 1) cap) (bs.length + 1) (Sk.cellsOf bs ++ b.cells))
    (hg : Gr w v w1 (.slice (some ⟨g1, 0, none⟩) (bs.length + 1) cap)) : RFile (w1.setCell ⟨g, 1, none⟩ (.slice (some ⟨g1, 0, none⟩) (bs.length + 1) cap)) B g s (.slice (some ⟨g1, 0, none⟩) (bs.length + 1) cap) (bs ++ [b]) d := by
  have hne : g1 ≠ g := fun e => by
    rcases hg.own with ho | ⟨k, ho, hk⟩
    · exact (h.rowLow g1 ho.symm).2 e
    · cases ho; have := h.lt; have hk' : w.heap.size ≤ g1 := hk; omega
  have hlow : B ≤ g1 := by
    rcases hg.own with ho | ⟨k, ho, hk⟩
    · exact (h.rowLow g1 ho.symm).1
    · cases ho; have hk' : w.heap.size ≤ g1 := hk; omega
  refine ⟨?_, h.low, ?_, fun k hk => by cases hk; exact ⟨hlow, hne⟩⟩
  · show (w1.heap.modify g _)[g]? = _
    rw [Array.getElem?_modify, if_pos rfl, hg.block g h.lt (fun e => (h.rowLow g e.symm).2 rfl), h.blk]
    rfl
  · rw [Sk.cellsOf_snoc, List.length_append]
    exact hr.kept (by simp) (fun k hk => by cases hk; exact heap_setCell_ne _ _ _ _ hne)

theorem RFile.after {w w' : World} {B g : Nat} {s : ByteArray} {v v' : Value} {bs : List Sk.Blk} {d : Nat} (h : RFile w B g s v bs d) (hg : Gr w v w' v') : w'.cell? ⟨g, 1, none⟩ = some v ∧ w'.frozen? ⟨g, 1, none⟩ = false := by
  have hb : w'.heap[g]? = some (.cells #[.string s, v, .int .i64 d] 67 (0, 0)) := by
    rw [hg.block g h.lt (fun e => (h.rowLow g e.symm).2 rfl)]
    exact h.blk
  exact ⟨by simp [World.cell?, hb], by simp [World.frozen?, hb]⟩

theorem bad_of (s : List UInt8) (p n c : Nat) (fr : Bool) (bs : List Sk.Blk) (d : Nat) (hn : Sk.numAt s (p + 1) 2 = n) (hc : (Sk.gt s p).toNat = c) (hfr : (c == 1) = fr) :
    (Sk.badHdr s p bs d = true ∧ ((1 : Int) < c ∨ ((c : Int) ≤ 1 ∧ (n : Int) < 1) ∨ ((c : Int) ≤ 1 ∧ (1 : Int) ≤ n ∧ (1024 : Int) < n) ∨ ((c : Int) ≤ 1 ∧ (1 : Int) ≤ n ∧ (n : Int) ≤ 1024 ∧ ((bs.length : Int) == 0) = true ∧ fr = false) ∨
      ((c : Int) ≤ 1 ∧ (1 : Int) ≤ n ∧ (n : Int) ≤ 1024 ∧ ((bs.length : Int) == 0) = true ∧ fr = true ∧ (20000 : Int) < d + n) ∨ ((c : Int) ≤ 1 ∧ (1 : Int) ≤ n ∧ (n : Int) ≤ 1024 ∧ ((bs.length : Int) == 0) = false ∧ (20000 : Int) < d + n))) ∨
    (Sk.badHdr s p bs d = false ∧ (c : Int) ≤ 1 ∧ (1 : Int) ≤ n ∧ (n : Int) ≤ 1024 ∧ (d : Int) + n ≤ 20000 ∧ ((((bs.length : Int) == 0) = true ∧ fr = true) ∨ ((bs.length : Int) == 0) = false)) := by
  unfold Sk.badHdr
  rw [hn, hc, hfr]
  have e0 : bs.isEmpty = ((bs.length : Int) == 0) := by cases bs <;> simp <;> omega
  rw [e0]
  clear hfr
  by_cases h1 : 1 < c
  · exact .inl ⟨by simp [h1], .inl (by omega)⟩
  · by_cases h2 : n < 1
    · exact .inl ⟨by simp [h2], .inr (.inl ⟨by omega, by omega⟩)⟩
    · by_cases h3 : 1024 < n
      · exact .inl ⟨by simp [h3], .inr (.inr (.inl ⟨by omega, by omega, by omega⟩))⟩
      · by_cases h5 : 20000 < d + n
        · refine .inl ⟨by simp [h5], ?_⟩
          cases hb : ((bs.length : Int) == 0)
          · exact .inr (.inr (.inr (.inr (.inr ⟨by omega, by omega, by omega, rfl, by omega⟩))))
          · cases fr
            · exact .inr (.inr (.inr (.inl ⟨by omega, by omega, by omega, rfl, rfl⟩)))
            · exact .inr (.inr (.inr (.inr (.inl ⟨by omega, by omega, by omega, rfl, rfl, by omega⟩))))
        · cases hb : ((bs.length : Int) == 0)
          · exact .inr ⟨by simp [h1, h2, h3, h5], by omega, by omega, by omega, by omega, .inr rfl⟩
          · cases fr
            · exact .inl ⟨by simp, .inr (.inr (.inr (.inl ⟨by omega, by omega, by omega, rfl, rfl⟩)))⟩
            · exact .inr ⟨by simp [h1, h2, h3, h5], by omega, by omega, by omega, by omega, .inl ⟨rfl, rfl⟩⟩

theorem fr_int (c : Nat) : (((c : Int) == 1) : Bool) = (c == 1) := by
  by_cases h : c = 1
  · subst h; rfl
  · rw [beq_eq_false_iff_ne.2 h, beq_eq_false_iff_ne.2 (by omega)]

end Go.Proofs.YtafkpmjifgohcaaDoor
