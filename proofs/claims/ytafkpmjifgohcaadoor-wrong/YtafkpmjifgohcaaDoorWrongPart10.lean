/- The program's index in memory, and the steps that build it.
(*index).add, walked.
The program's readIndex and Open, walked. -/
import Derived.Test.YtafkpmjifgohcaaDoorWrongPart6
import Derived.Test.YtafkpmjifgohcaaDoorWrongPart9
import Derived.Test.YtafkpmjifgohcaaDoorWrongPart4
namespace Go.Proofs.YtafkpmjifgohcaaDoor
open Go.RowKit

theorem Tryd.infoEntry : (Tryd.prog.info? 80).map (fun i => (i.zero, i.size, i.bytes)) = some (some (.agg #[.int .i64 0, .int .i64 0, .int .i64 0, .bool false, .int .i64 0, .int .u32 0]), 6, 48) := by kernel_rfl

/-- An entry's cells. -/
def Sk.cells6 (s : List UInt8) (b : Sk.Blk) : List Value := [.int .i64 b.frm, .int .i64 b.size, .int .i64 b.pos, .bool b.fresh, .int .i64 (Sk.numAt s (b.pos + 3) 2), .int .u32 (Sk.numAt s (b.pos + 5) 4)]
def Sk.cellsE (s : List UInt8) (bs : List Sk.Blk) : List Value := bs.flatMap (Sk.cells6 s)
theorem Sk.cellsE_snoc (s : List UInt8) (bs : List Sk.Blk) (b : Sk.Blk) : Sk.cellsE s (bs ++ [b]) = Sk.cellsE s bs ++ Sk.cells6 s b := by
  simp [Sk.cellsE]

/-- An index in memory. -/
structure IFile (w : World) (B g : Nat) (s : List UInt8) (v : Value) (bs : List Sk.Blk) (d : Nat) : Prop where
  blk : w.heap[g]? = some (.cells #[v, .int .i64 d] 39 (0, 0))
  low : B ≤ g
  row : Rw w 6 v bs.length (Sk.cellsE s bs)
  rowLow : ∀ k, v.ownBlock = some k → B ≤ k ∧ k ≠ g

section
variable {w w' : World} {B g : Nat} {s : List UInt8} {v : Value} {bs : List Sk.Blk} {d : Nat}
theorem IFile.lt (h : IFile w B g s v bs d) : g < w.heap.size := by
  rcases Nat.lt_or_ge g w.heap.size with h' | h'
  · exact h'
  · have := h.blk; simp [Array.getElem?_eq_none h'] at this
theorem IFile.cell (h : IFile w B g s v bs d) (j : Nat) : w.cell? ⟨g, j, none⟩ = (#[v, .int .i64 d] : Array Value)[j]? := by
  simp [World.cell?, h.blk]
theorem IFile.free (h : IFile w B g s v bs d) (j : Nat) : w.frozen? ⟨g, j, none⟩ = false := by
  simp [World.frozen?, h.blk]
theorem IFile.below (h : IFile w B g s v bs d) (hb : Below w.heap.size w w') : IFile w' B g s v bs d :=
  ⟨by rw [hb.block g h.lt]; exact h.blk, h.low, h.row.below hb, h.rowLow⟩
theorem IFile.data (h : IFile w B g s v bs d) (d' : Nat) (i : Int) (hi : i = d') : IFile (w.setCell ⟨g, 1, none⟩ (.int .i64 i)) B g s v bs d' := by
  subst hi
  refine ⟨?_, h.low, h.row.kept (by simp) (fun k hk => heap_setCell_ne _ _ _ _ (h.rowLow k hk).2), h.rowLow⟩
  show (w.heap.modify g _)[g]? = _
  rw [Array.getElem?_modify, if_pos rfl, h.blk]
  rfl
theorem IFile.more {w1 : World} {g1 cap : Nat} (b : Sk.Blk) (h : IFile w B g s v bs d) (hB : B ≤ w.heap.size) (hr : Rw w1 6 (.slice (some ⟨g1, 0, none⟩) (bs.length + 1) cap) (bs.length + 1) (Sk.cellsE s bs ++ Sk.cells6 s b))
    (hg : Gr w v w1 (.slice (some ⟨g1, 0, none⟩) (bs.length + 1) cap)) : IFile (w1.setCell ⟨g, 0, none⟩ (.slice (some ⟨g1, 0, none⟩) (bs.length + 1) cap)) B g s (.slice (some ⟨g1, 0, none⟩) (bs.length + 1) cap) (bs ++ [b]) d := by
  have hne : g1 ≠ g := fun e => by
    rcases hg.own with ho | ⟨k, ho, hk⟩
    · exact (h.rowLow g1 ho.symm).2 e
    · cases ho; have := h.lt; have hk' : w.heap.size ≤ g1 := hk; omega
  have hlow : B ≤ g1 := by
    rcases hg.own with ho | ⟨k, ho, hk⟩
    · exact (h.rowLow g1 ho.symm).1
    · cases ho; have hk' : w.heap.size ≤ g1 := hk; omega
  refine ⟨?_, h.low, ?_, fun k hk => by cases hk; exact ⟨hlow, hne⟩⟩
  · show (w1.heap.modify g _)[g]? = _
    rw [Array.getElem?_modify, if_pos rfl, hg.block g h.lt (fun e => (h.rowLow g e.symm).2 rfl), h.blk]
    rfl
  · rw [Sk.cellsE_snoc, List.length_append]
    exact hr.kept (by simp) (fun k hk => by cases hk; exact heap_setCell_ne _ _ _ _ hne)
theorem IFile.after {v' : Value} (h : IFile w B g s v bs d) (hg : Gr w v w' v') : w'.cell? ⟨g, 0, none⟩ = some v ∧ w'.cell? ⟨g, 1, none⟩ = some (.int .i64 d) ∧ w'.frozen? ⟨g, 0, none⟩ = false ∧ w'.frozen? ⟨g, 1, none⟩ = false := by
  have hb : w'.heap[g]? = some (.cells #[v, .int .i64 d] 39 (0, 0)) := by
    rw [hg.block g h.lt (fun e => (h.rowLow g e.symm).2 rfl)]
    exact h.blk
  exact ⟨by simp [World.cell?, hb], by simp [World.cell?, hb], by simp [World.frozen?, hb], by simp [World.frozen?, hb]⟩
end

set_option maxHeartbeats 800000 in
theorem mayFollow_any (w : World) (B g : Nat) (s : List UInt8) (v : Value) (bs : List Sk.Blk) (d : Nat) (fr : Bool) (n m x : Nat) (h : IFile w B g s v bs d) (hd : d ≤ 20000) (hn : n ≤ 1024) :
    Calls Tryd.prog 59 #[.pointer (some ⟨g, 0, none⟩), .agg #[.bool fr, .int .i64 n, .int .i64 m, .int .u32 x]] w fun e w' => e = .returned (.bool ((fr || !((bs.length : Int) == 0)) && decide ((d : Int) + n ≤ 20000))) ∧ Below w.heap.size w w' := by
  obtain ⟨vo, vcap, rfl⟩ := h.row.form
  have hlt := h.lt
  have h' := h.below ((Below.refl w.heap.size w).alloc (Nat.le_refl _) (.cells #[.bool fr, .int .i64 n, .int .i64 m, .int .u32 x] 105))
  have c0 := h'.cell 0
  have c1 := h'.cell 1
  simp at c0 c1
  clear h h'
  cases fr
  · by_cases hl : bs.length = 0
    · have e0 : ((bs.length : Int) == 0) = true := by rw [hl]; rfl
      clear hl
      go_enter Tryd.func59, Tryd.ntmps59
      go_wp2_with fail
      go_quiet (fail)
      go_wp2
      go_ret
      exact ⟨by simp [e0], below_drewN ((Below.refl _ _).alloc (Nat.le_refl _) _) _⟩
    · have e0 : ((bs.length : Int) == 0) = false := by rw [beq_eq_false_iff_ne]; omega
      clear hl
      go_enter Tryd.func59, Tryd.ntmps59
      go_wp2_with fail
      go_quiet (fail)
      go_wp2
      go_ret
      exact ⟨by simp [e0], below_drewN ((Below.refl _ _).alloc (Nat.le_refl _) _) _⟩
  · go_enter Tryd.func59, Tryd.ntmps59
    go_wp2_with fail
    go_quiet (fail)
    go_wp2
    go_ret
    exact ⟨by simp, below_drewN ((Below.refl _ _).alloc (Nat.le_refl _) _) _⟩
end Go.Proofs.YtafkpmjifgohcaaDoor

namespace Go.Proofs.YtafkpmjifgohcaaDoor
open Go.RowKit

set_option maxRecDepth 100000 in
set_option maxHeartbeats 4000000 in
theorem add_any (w : World) (B g : Nat) (s : List UInt8) (v : Value) (bs : List Sk.Blk) (d : Nat) (fr : Bool) (n m x p : Nat) (h : IFile w B g s v bs d) (hB : B ≤ w.heap.size) (hd : d ≤ 20000) (hn : n ≤ 1024) (hl : bs.length ≤ 20000) (hm : Sk.numAt s (p + 3) 2 = m) (hx : Sk.numAt s (p + 5) 4 = x) :
    Calls Tryd.prog 60 #[.pointer (some ⟨g, 0, none⟩), .agg #[.bool fr, .int .i64 n, .int .i64 m, .int .u32 x], .int .i64 p] w fun e w' => e = .returned (.tuple #[]) ∧ ∃ v', IFile w' B g s v' (bs ++ [⟨d, n, p, fr⟩]) (d + n) ∧ Below B w w' ∧ ∀ k, k < w.heap.size → k ≠ g → v.ownBlock ≠ some k → w'.heap[k]? = w.heap[k]? := by
  obtain ⟨vo, vcap, rfl⟩ := h.row.form
  have hlt := h.lt
  have h' := h.below ((Below.refl w.heap.size w).alloc (Nat.le_refl _) (.cells #[.bool fr, .int .i64 n, .int .i64 m, .int .u32 x] 105))
  have c0 := h'.cell 0
  have c1 := h'.cell 1
  simp at c0 c1
  have HF : Hid (IFile w B g s (.slice vo bs.length vcap) bs d) := h
  have HM : Hid (Sk.numAt s (p + 3) 2 = m) := hm
  have HX : Hid (Sk.numAt s (p + 5) 4 = x) := hx
  clear h h' hm hx
  go_enter Tryd.func60, Tryd.ntmps60
  go_wp2_with fail
  go_region
  have hz : ((w.alloc (.cells #[.bool fr, .int .i64 n, .int .i64 m, .int .u32 x] 105)).alloc (.cells #[.int .i64 d, .int .i64 n, .int .i64 p, .bool fr] 45)).drew.heap.size = w.heap.size + 1 + 1 := by simp
  have HB : Hid (Below w.heap.size w ((w.alloc (.cells #[.bool fr, .int .i64 n, .int .i64 m, .int .u32 x] 105)).alloc (.cells #[.int .i64 d, .int .i64 n, .int .i64 p, .bool fr] 45)).drew) := (((Below.refl _ _).alloc (Nat.le_refl _) _).alloc (by simp) _).drew
  have HF2 : Hid (IFile ((w.alloc (.cells #[.bool fr, .int .i64 n, .int .i64 m, .int .u32 x] 105)).alloc (.cells #[.int .i64 d, .int .i64 n, .int .i64 p, .bool fr] 45)).drew B g s (.slice vo bs.length vcap) bs d) := HF.out.below HB.out
  have k : ∀ j, ((w.alloc (.cells #[.bool fr, .int .i64 n, .int .i64 m, .int .u32 x] 105)).alloc (.cells #[.int .i64 d, .int .i64 n, .int .i64 p, .bool fr] 45)).drew.cell? ⟨w.heap.size, j, none⟩ = (#[.bool fr, .int .i64 n, .int .i64 m, .int .u32 x] : Array Value)[j]? := fun j => by
    exact (World.cell?_alloc_lt (w.alloc (.cells #[.bool fr, .int .i64 n, .int .i64 m, .int .u32 x] 105)) _ ⟨w.heap.size, j, none⟩ (by simp)).trans (World.cell?_alloc_new _ _ _ _)
  have k' : ∀ j, ((w.alloc (.cells #[.bool fr, .int .i64 n, .int .i64 m, .int .u32 x] 105)).alloc (.cells #[.int .i64 d, .int .i64 n, .int .i64 p, .bool fr] 45)).drew.cell? ⟨w.heap.size + 1, j, none⟩ = (#[.int .i64 d, .int .i64 n, .int .i64 p, .bool fr] : Array Value)[j]? := fun j => World.cell?_alloc_at (w := w.alloc (.cells #[.bool fr, .int .i64 n, .int .i64 m, .int .u32 x] 105)) _ _ _ _ (by simp)
  generalize ((w.alloc (.cells #[.bool fr, .int .i64 n, .int .i64 m, .int .u32 x] 105)).alloc (.cells #[.int .i64 d, .int .i64 n, .int .i64 p, .bool fr] 45)).drew = W2 at HB HF2 k k' hz ⊢
  clear c0 c1
  have d0 := HF2.out.cell 0
  have d1 := HF2.out.cell 1
  have g0 := HF2.out.free 0
  have g1 := HF2.out.free 1
  have k0 := k 0
  have k1 := k 1
  have k2 := k 2
  have k3 := k 3
  have q0 := k' 0
  have q1 := k' 1
  have q2 := k' 2
  have q3 := k' 3
  simp at d0 d1 k0 k1 k2 k3 q0 q1 q2 q3
  have HK : Hid (∀ j, W2.cell? ⟨w.heap.size, j, none⟩ = (#[.bool fr, .int .i64 n, .int .i64 m, .int .u32 x] : Array Value)[j]?) := k
  clear k k'
  have HS : Hid (Src Tryd.prog 6 37 (.slice (some ⟨W2.heap.size, 0, none⟩) 1 1) 1 [.int .i64 d, .int .i64 n, .int .i64 p, .bool fr, .int .i64 m, .int .u32 x] ((W2.alloc (.cells #[.int .i64 d, .int .i64 n, .int .i64 p, .bool fr, .int .i64 m, .int .u32 x] 80)).drew)) := by
    exact srcR_new W2.drew 37 80 Tryd.underlying37 #[.int .i64 d, .int .i64 n, .int .i64 p, .bool fr, .int .i64 m, .int .u32 x] 6 1 rfl (by intro u hu; simp at hu; rcases hu with rfl | rfl | rfl | rfl | rfl | rfl <;> rfl)
  have HF3 : Hid (IFile ((W2.alloc (.cells #[.int .i64 d, .int .i64 n, .int .i64 p, .bool fr, .int .i64 m, .int .u32 x] 80)).drew) B g s (.slice vo bs.length vcap) bs d) := HF2.out.below (((Below.refl _ _).alloc (Nat.le_refl _) _).drew)
  have HB3 : Hid (Below w.heap.size w ((W2.alloc (.cells #[.int .i64 d, .int .i64 n, .int .i64 p, .bool fr, .int .i64 m, .int .u32 x] 80)).drew)) := (HB.out.alloc (by omega) _).drew
  have hz2 : g < W2.heap.size := by omega
  have e0 := HF3.out.cell 0
  have e1 := HF3.out.free 0
  simp at e0
  have HZ : Hid (W2.heap.size = w.heap.size + 1 + 1) := hz
  clear hz
  go_wp2_with fail
  refine (fun hrest : Hid (∀ (g1 cap1 : Nat) (w4 : World), Rw w4 6 (.slice (some ⟨g1, 0, none⟩) (bs.length + 1) cap1) (bs.length + 1) (Sk.cellsE s bs ++ [.int .i64 d, .int .i64 n, .int .i64 p, .bool fr, .int .i64 m, .int .u32 x]) → Gr ((W2.alloc (.cells #[.int .i64 d, .int .i64 n, .int .i64 p, .bool fr, .int .i64 m, .int .u32 x] 80)).drew) (.slice vo bs.length vcap) w4 (.slice (some ⟨g1, 0, none⟩) (bs.length + 1) cap1) → (?P1 : Nat → Nat → World → Prop) g1 cap1 w4) => ?main1) ?rest1
  case main1 =>
    go_region_law ((refine step_append_rw (by rfl) (.tmp 21) (.tmp 28) 37 37 (by rfl) 80 _ 6 48 Tryd.underlying37 Tryd.infoEntry (by rfl) (.slice vo bs.length vcap) (.slice (some ⟨W2.heap.size, 0, none⟩) 1 1) bs.length 1 (Sk.cellsE s bs) [.int .i64 d, .int .i64 n, .int .i64 p, .bool fr, .int .i64 m, .int .u32 x] (by rfl) (by rfl) HF3.out.row HS.out (by decide) (by omega) (by omega) ?_; intro g1 cap1 w4 hr4 hg4; obtain ⟨z1, z2, z3, z4⟩ := HF3.out.after hg4; have HR4 : Hid (Rw w4 6 (.slice (some ⟨g1, 0, none⟩) (bs.length + 1) cap1) (bs.length + 1) (Sk.cellsE s bs ++ [.int .i64 d, .int .i64 n, .int .i64 p, .bool fr, .int .i64 m, .int .u32 x])) := hr4; have HG4 : Hid (Gr _ (.slice vo bs.length vcap) w4 (.slice (some ⟨g1, 0, none⟩) (bs.length + 1) cap1)) := hg4; clear hr4 hg4))
    all_goals exact hrest.out g1 cap1 w4 HR4.out HG4.out
  case rest1 =>
    unfold Hid
    intro g1 cap1 w4 hr4 hg4
    obtain ⟨z1, z2, z3, z4⟩ := HF3.out.after hg4
    have hgz := hg4.size
    have HF4 : Hid (IFile (w4.setCell ⟨g, 0, none⟩ (.slice (some ⟨g1, 0, none⟩) (bs.length + 1) cap1)) B g s (.slice (some ⟨g1, 0, none⟩) (bs.length + 1) cap1) (bs ++ [⟨d, n, p, fr⟩]) d) := HF3.out.more ⟨d, n, p, fr⟩ (by have := HB3.out.size; omega) (by show Rw w4 6 _ _ (Sk.cellsE s bs ++ [_, _, _, _, .int .i64 (Sk.numAt s (p + 3) 2), .int .u32 (Sk.numAt s (p + 5) 4)]); rw [HM.out, HX.out]; exact hr4) hg4
    have HB4 : Hid (Below B w (w4.setCell ⟨g, 0, none⟩ (.slice (some ⟨g1, 0, none⟩) (bs.length + 1) cap1))) := ((HB3.out.mono hB).trans (hg4.below (by have := HB3.out.size; omega) (fun k hk => (HF3.out.rowLow k hk).1))).setCell HF.out.low _
    have y1 : (w4.setCell ⟨g, 0, none⟩ (.slice (some ⟨g1, 0, none⟩) (bs.length + 1) cap1)).cell? ⟨w.heap.size, 1, none⟩ = some (.int .i64 n) := by
      rw [World.cell?_of_block (a := ⟨w.heap.size, 1, none⟩) (heap_setCell_ne _ _ _ _ (by show w.heap.size ≠ g; omega))]
      have hne : some w.heap.size ≠ (Value.slice vo bs.length vcap).ownBlock := fun e => by have := HF.out.row.lt _ e.symm; omega
      rw [World.cell?_of_block (a := ⟨w.heap.size, 1, none⟩) (hg4.block w.heap.size (by show w.heap.size < (W2.heap.push _).size; have := HZ.out; simp; omega) hne)]
      refine (World.cell?_alloc_lt W2 _ ⟨w.heap.size, 1, none⟩ (by show w.heap.size < W2.heap.size; have := HZ.out; omega)).trans k1
    have HK5 : Hid (∀ k, k < w.heap.size → k ≠ g → (Value.slice vo bs.length vcap).ownBlock ≠ some k → (w4.setCell ⟨g, 0, none⟩ (.slice (some ⟨g1, 0, none⟩) (bs.length + 1) cap1)).heap[k]? = w.heap[k]?) := fun k hk1 hk2 hk3 => by
      rw [heap_setCell_ne _ _ _ _ hk2, hg4.block k (by have := HB3.out.size; omega) (fun e => hk3 e.symm), HB3.out.block k hk1]
    have v1 := HF4.out.cell 1
    have v2 := HF4.out.free 1
    simp at v1
    generalize w4.setCell ⟨g, 0, none⟩ (.slice (some ⟨g1, 0, none⟩) (bs.length + 1) cap1) = W5 at HF4 HB4 HK5 y1 v1 v2 ⊢
    clear z1 z2 z3 z4 hr4 hg4 k0 k1 k2 k3 q0 q1 q2 q3 d0 d1 g0 e0 e1 hgz
    go_wp2_with fail
    go_region
    all_goals (try go_wp2)
    all_goals go_end0
    all_goals exact ⟨rfl, _, (HF4.out.data (d + n) _ (by omega)).below ((Below.refl _ _).drew), (HB4.out.setCell HF.out.low _).drew, fun k hk1 hk2 hk3 => (heap_setCell_ne W5 ⟨g, 1, none⟩ _ k hk2).trans (HK5.out k hk1 hk2 hk3)⟩
end Go.Proofs.YtafkpmjifgohcaaDoor

namespace Go.Proofs.YtafkpmjifgohcaaDoor
open Go.RowKit

theorem extract_all_size (s : ByteArray) (p : Nat) (_h : p ≤ s.size) : (s.extract p s.size).size = s.size - p := by
  rw [ByteArray.size_extract]; omega

theorem hdr_at (s : ByteArray) (p : Nat) (h : p + 9 ≤ s.size) :
    (Sk.gt (s.extract p s.size).data.toList 0).toNat = (Sk.gt s.data.toList p).toNat ∧ Sk.numAt (s.extract p s.size).data.toList 1 2 = Sk.numAt s.data.toList (p + 1) 2 ∧ Sk.numAt (s.extract p s.size).data.toList 3 2 = Sk.numAt s.data.toList (p + 3) 2 ∧ Sk.numAt (s.extract p s.size).data.toList 5 4 = Sk.numAt s.data.toList (p + 5) 4 :=
  ⟨by rw [gt_extract s p s.size 0 (by omega)]; rfl, numAt_extract s p s.size 2 1 (by omega), numAt_extract s p s.size 2 3 (by omega), numAt_extract s p s.size 4 5 (by omega)⟩

theorem idx_zero {w : World} {g : Nat} (h : w.heap[g]? = some (.cells #[.slice none 0 0, .int .i64 0] 39 (0, 0))) : w.cell? ⟨g, 0, none⟩ = some (.slice none 0 0) ∧ w.cell? ⟨g, 1, none⟩ = some (.int .i64 0) ∧ w.frozen? ⟨g, 0, none⟩ = false ∧ w.frozen? ⟨g, 1, none⟩ = false :=
  ⟨by simp [World.cell?, h], by simp [World.cell?, h], by simp [World.frozen?, h], by simp [World.frozen?, h]⟩

set_option maxRecDepth 100000 in
set_option maxHeartbeats 4000000 in
theorem readIndex_any (s : ByteArray) (a2 a3 : Addr) (w : World) (hs : s.size ≤ 65536) (h3 : 3 ≤ s.size)
    (k2 : w.cell? ⟨2, 0, none⟩ = some (.iface 170 (.pointer (some a2)))) (k3 : w.cell? ⟨3, 0, none⟩ = some (.iface 170 (.pointer (some a3)))) :
    Calls Tryd.prog 36 #[.string s] w fun e w' => Below w.heap.size w w' ∧
      ((Sk.openN s.data.toList s.size 3 [] 0).1 = 0 → ∃ v, e = .returned (.tuple #[.agg #[v, .int .i64 (Sk.openN s.data.toList s.size 3 [] 0).2.2], .nilIface]) ∧ Rw w' 6 v (Sk.openN s.data.toList s.size 3 [] 0).2.1.length (Sk.cellsE s.data.toList (Sk.openN s.data.toList s.size 3 [] 0).2.1) ∧ ∀ k, v.ownBlock = some k → w.heap.size ≤ k) ∧
      ((Sk.openN s.data.toList s.size 3 [] 0).1 = 3 → e = .returned (.tuple #[.agg #[.slice none 0 0, .int .i64 0], .iface 170 (.pointer (some a2))])) ∧
      ((Sk.openN s.data.toList s.size 3 [] 0).1 = 4 → e = .returned (.tuple #[.agg #[.slice none 0 0, .int .i64 0], .iface 170 (.pointer (some a3))])) ∧
      ((Sk.openN s.data.toList s.size 3 [] 0).1 = 0 ∨ (Sk.openN s.data.toList s.size 3 [] 0).1 = 3 ∨ (Sk.openN s.data.toList s.size 3 [] 0).1 = 4) := by
  have hlen : s.data.toList.length = s.size := Array.length_toList
  have HL : Hid (s.data.toList.length = s.size) := hlen
  clear hlen
  have l2 := cell_lt k2
  have l3 := cell_lt k3
  go_enter Tryd.func36, Tryd.ntmps36
  go_wp2
  have HI0 : Hid (IFile ((w.alloc (.cells #[.slice none 0 0, .int .i64 0] 39)).alloc (.cells #[.slice none 0 0, .int .i64 0] 39)) (w.heap.size + 1) (w.heap.size + 1) s.data.toList (.slice none 0 0) [] 0) := by
    refine ⟨?_, Nat.le_refl _, Rw.nil _ _, fun k hk => by cases hk⟩
    show ((w.heap.push _).push _)[w.heap.size + 1]? = _
    rw [Array.getElem?_push, if_pos (by simp)]
    rfl
  go_loopw [5] (fun i wr => ∃ f p d : Nat, ∃ v bs, i = .int .i64 p ∧ p ≤ s.size ∧ d ≤ 20000 ∧ bs.length ≤ d ∧ s.size ≤ p + f ∧ IFile wr (w.heap.size + 1) (w.heap.size + 1) s.data.toList v bs d ∧ wr.heap[w.heap.size]? = some (.cells #[.slice none 0 0, .int .i64 0] 39 (0, 0)) ∧ Below w.heap.size w wr ∧ Sk.openN s.data.toList f p bs d = Sk.openN s.data.toList s.size 3 [] 0) (fun i _ => s.size - (intOf i).toNat)
  case atStart =>
    refine ⟨s.size, 3, 0, .slice none 0 0, [], rfl, by omega, by omega, by simp, by omega, HI0.out, ?_, ((Below.refl _ _).alloc (Nat.le_refl _) _).alloc (by simp) _, rfl⟩
    show ((w.heap.push _).push _)[w.heap.size]? = _
    simp [Array.getElem?_push]
  case round =>
    obtain ⟨f, p, d, v, bs, rfl, hp, hd, hbd, hf, hR, hres, hbel, hinv⟩ := hrel
    clear HI0
    have HI : Hid (Sk.openN s.data.toList f p bs d = Sk.openN s.data.toList s.size 3 [] 0) := hinv
    have HR : Hid (IFile wr (w.heap.size + 1) (w.heap.size + 1) s.data.toList v bs d) := hR
    have HB : Hid (Below w.heap.size w wr) := hbel
    have HRES : Hid (wr.heap[w.heap.size]? = some (.cells #[.slice none 0 0, .int .i64 0] 39 (0, 0))) := hres
    have hsz := hR.lt
    clear hinv hR hbel hres
    have hwz : w.heap.size ≤ wr.heap.size := HB.out.size
    by_cases hlt : p < s.size
    · by_cases h9 : p + 9 ≤ s.size
      · obtain ⟨q1, q2, q3, q4⟩ := hdr_at s p h9
        obtain ⟨n, hn⟩ : ∃ n, n = Sk.numAt s.data.toList (p + 1) 2 := ⟨_, rfl⟩
        obtain ⟨m, hm⟩ : ∃ n, n = Sk.numAt s.data.toList (p + 3) 2 := ⟨_, rfl⟩
        obtain ⟨x, hx⟩ : ∃ n, n = Sk.numAt s.data.toList (p + 5) 4 := ⟨_, rfl⟩
        obtain ⟨c, hc⟩ : ∃ n, n = (Sk.gt s.data.toList p).toNat := ⟨_, rfl⟩
        rw [← hc] at q1
        rw [← hn] at q2
        rw [← hm] at q3
        rw [← hx] at q4
        have HN : Hid (Sk.numAt s.data.toList (p + 1) 2 = n) := hn.symm
        have HM : Hid (Sk.numAt s.data.toList (p + 3) 2 = m) := hm.symm
        have HX : Hid (Sk.numAt s.data.toList (p + 5) 4 = x) := hx.symm
        have HC : Hid ((Sk.gt s.data.toList p).toNat = c) := hc.symm
        have hm2 : m ≤ 70000 := by have : m < 65536 := by rw [hm]; exact Sk.numAt_lt _ 2 _
                                   omega
        clear hn hm hx hc
        have HQ : Hid ((Sk.gt (s.extract p s.size).data.toList 0).toNat = c ∧ Sk.numAt (s.extract p s.size).data.toList 1 2 = n ∧ Sk.numAt (s.extract p s.size).data.toList 3 2 = m ∧ Sk.numAt (s.extract p s.size).data.toList 5 4 = x) := ⟨q1, q2, q3, q4⟩
        clear q1 q2 q3 q4
        have hsx : (s.extract p s.size).size = s.size - p := by rw [ByteArray.size_extract]; omega
        have HSX : Hid ((s.extract p s.size).size = s.size - p) := hsx
        clear hsx
        obtain ⟨f, rfl⟩ : ∃ j, f = j + 1 := ⟨f - 1, by omega⟩
        by_cases hbad : 1 < c ∨ n < 1 ∨ 1024 < n
        · have HI2 : Hid (Sk.openN s.data.toList s.size 3 [] 0 = (3, [], 0)) := by
            have := HI.out
            have hb : Sk.badHdr s.data.toList p bs d = true := by
              unfold Sk.badHdr
              rw [HN.out, HC.out]
              rcases hbad with h | h | h <;> simp [h]
            rw [Sk.openN, if_pos (by rw [HL.out]; exact hlt), if_neg (by rw [HL.out]; omega), if_pos hb] at this
            exact this.symm
          clear HI
          have HBAD : Hid (1 < c ∨ n < 1 ∨ 1024 < n) := hbad
          clear hbad
          go_wp2_with fail
          refine (hdrRead_long (s.extract p s.size) a2 c n m x wr ((HB.out.cell (p := ⟨2, 0, none⟩) l2).trans k2) (by rw [HSX.out]; omega) (by rw [HSX.out]; omega) HQ.out.1 HQ.out.2.1 HQ.out.2.2.1 HQ.out.2.2.2).mono ?_
          rintro e w1 ⟨hb1, he, _⟩
          obtain rfl := he HBAD.out
          have HB1 : Hid (Below w.heap.size w w1) := HB.out.trans (hb1.mono hwz)
          have hz1 : w.heap.size + 1 < w1.heap.size := by have := hb1.size; omega
          have hz0 : w.heap.size < w1.heap.size := by omega
          obtain ⟨r0, r1, f0, f1⟩ := idx_zero ((hb1.block w.heap.size (by omega)).trans HRES.out)
          clear hb1 he
          go_wp2
          all_goals (try simp only [Exit.inBlock, Exit.then])
          all_goals refine bodyPost_ret (v := .tuple #[.agg #[.slice none 0 0, .int .i64 0], .iface 170 (.pointer (some a2))]) ?_ rfl ⟨?_, (fun h => by rw [HI2.out] at h; cases h), (fun h => rfl), (fun h => by rw [HI2.out] at h; cases h), by rw [HI2.out]; exact .inr (.inl rfl)⟩
          all_goals first
            | (rw [results_cell_tmp rfl]; go_simp; done)
            | (repeat' (first | exact HB1.out | refine Below.drew ?_ | refine Below.alloc ?_ (by simp; try omega) _ | refine below_set ?_ _ _ _ (by omega)))
        · have hn1 : 1 ≤ n := by omega
          have hn3 : n ≤ 1024 := by omega
          have HBAD : Hid (¬ (1 < c ∨ n < 1 ∨ 1024 < n)) := hbad
          obtain ⟨fr, hfr⟩ : ∃ fr, fr = (c == 1) := ⟨_, rfl⟩
          have HFR : Hid ((c == 1) = fr) := hfr.symm
          have hc1 : c ≤ 1 := by omega
          clear hbad hfr
          go_wp2_with fail
          refine (hdrRead_long (s.extract p s.size) a2 c n m x wr ((HB.out.cell (p := ⟨2, 0, none⟩) l2).trans k2) (by rw [HSX.out]; omega) (by rw [HSX.out]; omega) HQ.out.1 HQ.out.2.1 HQ.out.2.2.1 HQ.out.2.2.2).mono ?_
          rintro e w1 ⟨hb1, _, he⟩
          obtain rfl := he HBAD.out
          rw [HFR.out]
          have HB1 : Hid (Below w.heap.size w w1) := HB.out.trans (hb1.mono hwz)
          have HF1 : Hid (IFile w1 (w.heap.size + 1) (w.heap.size + 1) s.data.toList v bs d) := HR.out.below hb1
          have HRES1 : Hid (w1.heap[w.heap.size]? = some (.cells #[.slice none 0 0, .int .i64 0] 39 (0, 0))) := (hb1.block w.heap.size (by omega)).trans HRES.out
          have hz1 : w.heap.size + 1 < w1.heap.size := by have := hb1.size; omega
          have hz0 : w.heap.size < w1.heap.size := by omega
          have hvo : Hid (∀ k, v.ownBlock = some k → k < w1.heap.size) := fun k hk => by have := HR.out.row.lt k hk; have := hb1.size; omega
          clear hb1 he HR HRES
          go_wp2_with fail
          have hbA : Below w1.heap.size w1 (w1.alloc (.cells #[.bool fr, .int .i64 n, .int .i64 m, .int .u32 x] 105)) := (Below.refl _ _).alloc (Nat.le_refl _) _
          have HBA : Hid (Below w1.heap.size w1 (w1.alloc (.cells #[.bool fr, .int .i64 n, .int .i64 m, .int .u32 x] 105))) := hbA
          clear hbA
          refine (mayFollow_any _ (w.heap.size + 1) (w.heap.size + 1) s.data.toList v bs d fr n m x (HF1.out.below HBA.out) hd hn3).mono ?_
          rintro e w2 ⟨he, hb2⟩
          have hbs : (w1.alloc (.cells #[.bool fr, .int .i64 n, .int .i64 m, .int .u32 x] 105)).heap.size = w1.heap.size + 1 := by simp
          have HB2 : Hid (Below w1.heap.size w1 w2) := HBA.out.trans (hb2.mono (by omega))
          have hz2 : w1.heap.size < w2.heap.size := by have := hb2.size; omega
          have e4 : ∀ j, w2.cell? ⟨w1.heap.size, j, none⟩ = (#[.bool fr, .int .i64 n, .int .i64 m, .int .u32 x] : Array Value)[j]? := fun j => (hb2.cell (p := ⟨w1.heap.size, j, none⟩) (by show w1.heap.size < _; omega)).trans (World.cell?_alloc_new _ _ _ _)
          have y0 := e4 0
          have y1 := e4 1
          have y2 := e4 2
          have y3 := e4 3
          simp at y0 y1 y2 y3
          have HBW : Hid (Below w.heap.size w w2) := HB1.out.trans (HB2.out.mono (by omega))
          have HE4 : Hid (w2.heap[w1.heap.size]? = some (.cells #[.bool fr, .int .i64 n, .int .i64 m, .int .u32 x] 105 (0, 0))) := (hb2.block w1.heap.size (by omega)).trans (heap_alloc_new _ _)
          clear e4 hb2 hbs HBA
          rcases bad_of s.data.toList p n c fr bs d HN.out HC.out HFR.out with ⟨hb, hcase⟩ | ⟨hgood, _, _, _, hdn, hcase⟩
          · have HI2 : Hid (Sk.openN s.data.toList s.size 3 [] 0 = (3, [], 0)) := by
              have := HI.out
              rw [Sk.openN, if_pos (by rw [HL.out]; exact hlt), if_neg (by rw [HL.out]; omega), if_pos hb] at this
              exact this.symm
            have hv : ((fr || !((bs.length : Int) == 0)) && decide ((d : Int) + n ≤ 20000)) = false := by
              rcases hcase with a1 | ⟨a1, a2⟩ | ⟨a1, a2, a3⟩ | ⟨a1, a2, a3, a4, rfl⟩ | ⟨a1, a2, a3, a4, rfl, a6⟩ | ⟨a1, a2, a3, a4, a5⟩
              · omega
              · omega
              · omega
              · simp [a4]
              · rw [decide_eq_false (by omega)]; simp
              · rw [decide_eq_false (by omega)]; simp
            rw [hv] at he
            subst he
            clear hb hcase hv HI
            obtain ⟨r0, r1, f0, f1⟩ := idx_zero ((HB2.out.block w.heap.size (by omega)).trans HRES1.out)
            have j2 := (HBW.out.cell (p := ⟨2, 0, none⟩) l2).trans k2
            have hz3 : w.heap.size < w2.heap.size := by omega
            go_wp2_with fail
            go_region
            all_goals (try go_wp2)
            all_goals (try simp only [Exit.inBlock, Exit.then])
            all_goals refine bodyPost_ret (v := .tuple #[.agg #[.slice none 0 0, .int .i64 0], .iface 170 (.pointer (some a2))]) ?_ rfl ⟨?_, (fun h => by rw [HI2.out] at h; cases h), (fun h => rfl), (fun h => by rw [HI2.out] at h; cases h), by rw [HI2.out]; exact .inr (.inl rfl)⟩
            all_goals first
              | (rw [results_cell_tmp rfl]; go_simp; done)
              | (repeat' (first | exact HBW.out | refine Below.drew ?_ | refine Below.alloc ?_ (by simp; try omega) _ | refine below_set ?_ _ _ _ (by omega)))
          · have hv : ((fr || !((bs.length : Int) == 0)) && decide ((d : Int) + n ≤ 20000)) = true := by
              rcases hcase with ⟨a4, rfl⟩ | a4
              · rw [decide_eq_true hdn]; simp
              · rw [decide_eq_true hdn, a4]; simp
            rw [hv] at he
            subst he
            clear hcase hv
            have hls : bs.length ≤ 20000 := by omega
            have HF2 : Hid (IFile w2 (w.heap.size + 1) (w.heap.size + 1) s.data.toList v bs d) := HF1.out.below HB2.out
            go_wp2_with fail
            refine (add_any w2 (w.heap.size + 1) (w.heap.size + 1) s.data.toList v bs d fr n m x p HF2.out (by omega) hd hn3 hls HM.out HX.out).mono ?_
            rintro e w3 ⟨rfl, v', hf3, hb3, hk3⟩
            have HF3 : Hid (IFile w3 (w.heap.size + 1) (w.heap.size + 1) s.data.toList v' (bs ++ [⟨d, n, p, fr⟩]) (d + n)) := hf3
            have HB3 : Hid (Below w.heap.size w w3) := HBW.out.trans (hb3.mono (by omega))
            have HRES3 : Hid (w3.heap[w.heap.size]? = some (.cells #[.slice none 0 0, .int .i64 0] 39 (0, 0))) := ((hb3.block w.heap.size (by omega)).trans (HB2.out.block w.heap.size (by omega))).trans HRES1.out
            have hm3 : w3.cell? ⟨w1.heap.size, 2, none⟩ = some (.int .i64 m) := by
              have : w3.heap[w1.heap.size]? = some (.cells #[.bool fr, .int .i64 n, .int .i64 m, .int .u32 x] 105 (0, 0)) := (hk3 w1.heap.size hz2 (by omega) (fun e => by have := hvo.out _ e; omega)).trans HE4.out
              simp [World.cell?, this]
            have hz3 : w.heap.size < w3.heap.size := by have := hb3.size; omega
            obtain ⟨r0, r1, f0, f1⟩ := idx_zero HRES3.out
            clear hf3 hb3 hk3 y0 y1 y2 y3
            by_cases h10 : p + 9 + m ≤ s.size
            · have HI2 : Hid (Sk.openN s.data.toList f (p + 9 + m) (bs ++ [⟨d, n, p, fr⟩]) (d + n) = Sk.openN s.data.toList s.size 3 [] 0) := by
                have := HI.out
                rw [Sk.openN, if_pos (by rw [HL.out]; exact hlt), if_neg (by rw [HL.out]; omega), hgood, if_neg (by decide), HM.out, if_neg (by rw [HL.out]; omega), HN.out, HC.out, HFR.out] at this
                exact this
              clear HI hgood
              go_wp2
              go_roundw
              case rel => exact ⟨f, p + 9 + m, d + n, v', _, by go_num, by omega, by omega, by rw [List.length_append]; simp; omega, by omega, HF3.out, HRES3.out, HB3.out, HI2.out⟩
              case measure => simp [intOf]; omega
            · have HI2 : Hid (Sk.openN s.data.toList s.size 3 [] 0 = (4, [], 0)) := by
                have := HI.out
                rw [Sk.openN, if_pos (by rw [HL.out]; exact hlt), if_neg (by rw [HL.out]; omega), hgood, if_neg (by decide), HM.out, if_pos (by rw [HL.out]; omega)] at this
                exact this.symm
              clear HI hgood
              have j3 := (HB3.out.cell (p := ⟨3, 0, none⟩) l3).trans k3
              go_wp2_with fail
              go_region
              all_goals (try go_wp2)
              all_goals (try simp only [Exit.inBlock, Exit.then])
              all_goals refine bodyPost_ret (v := .tuple #[.agg #[.slice none 0 0, .int .i64 0], .iface 170 (.pointer (some a3))]) ?_ rfl ⟨?_, (fun h => by rw [HI2.out] at h; cases h), (fun h => by rw [HI2.out] at h; cases h), (fun h => rfl), by rw [HI2.out]; exact .inr (.inr rfl)⟩
              all_goals first
                | (rw [results_cell_tmp rfl]; go_simp; done)
                | (repeat' (first | exact HB3.out | refine Below.drew ?_ | refine Below.alloc ?_ (by simp; try omega) _ | refine below_set ?_ _ _ _ (by omega)))
      · have HI2 : Hid (Sk.openN s.data.toList s.size 3 [] 0 = (4, [], 0)) := by
          have := HI.out
          obtain ⟨f, rfl⟩ : ∃ j, f = j + 1 := ⟨f - 1, by omega⟩
          rw [Sk.openN, if_pos (by rw [HL.out]; exact hlt), if_pos (by rw [HL.out]; omega)] at this
          exact this.symm
        clear HI
        go_wp2_with fail
        refine (hdrRead_short (s.extract p s.size) a3 wr ((HB.out.cell (p := ⟨3, 0, none⟩) l3).trans k3) (by rw [ByteArray.size_extract]; omega)).mono ?_
        rintro e w1 ⟨rfl, hb1⟩
        have HB1 : Hid (Below w.heap.size w w1) := HB.out.trans (hb1.mono hwz)
        have hz1 : w.heap.size + 1 < w1.heap.size := by have := hb1.size; omega
        have hz0 : w.heap.size < w1.heap.size := by omega
        obtain ⟨r0, r1, f0, f1⟩ := idx_zero ((hb1.block w.heap.size (by omega)).trans HRES.out)
        clear hb1
        go_wp2
        all_goals (try simp only [Exit.inBlock, Exit.then])
        all_goals refine bodyPost_ret (v := .tuple #[.agg #[.slice none 0 0, .int .i64 0], .iface 170 (.pointer (some a3))]) ?_ rfl ⟨?_, (fun h => by rw [HI2.out] at h; cases h), (fun h => by rw [HI2.out] at h; cases h), (fun h => rfl), by rw [HI2.out]; exact .inr (.inr rfl)⟩
        all_goals first
          | (rw [results_cell_tmp rfl]; go_simp; done)
          | (repeat' (first | exact HB1.out | refine Below.drew ?_ | refine Below.alloc ?_ (by simp; try omega) _ | refine below_set ?_ _ _ _ (by omega)))
    · have HI2 : Hid (Sk.openN s.data.toList s.size 3 [] 0 = (0, bs, d)) := by
        have := HI.out
        rw [Sk.openN_end _ _ _ _ _ (by rw [HL.out]; exact hlt)] at this
        exact this.symm
      clear HI
      obtain ⟨vo, vcap, rfl⟩ := HR.out.row.form
      have c0 := HR.out.cell 0
      have c1 := HR.out.cell 1
      simp at c0 c1
      obtain ⟨r0, r1, f0, f1⟩ := idx_zero HRES.out
      have hz1 : w.heap.size < wr.heap.size := by omega
      go_wp2
      (try simp only [Exit.inBlock, Exit.then])
      refine bodyPost_ret (v := .tuple #[.agg #[.slice vo bs.length vcap, .int .i64 d], .nilIface]) ?_ rfl ⟨?_, ?_, ?_, ?_, ?_⟩
      · rw [results_cell_tmp rfl]
        go_simp
      · repeat' (first | exact HB.out | refine below_set ?_ _ _ _ (by omega))
      · rw [HI2.out]
        intro _
        refine ⟨_, rfl, ?_, fun k hk => by have := (HR.out.rowLow k hk).1; omega⟩
        refine HR.out.row.kept (by simp) (fun k hk => ?_)
        have := (HR.out.rowLow k hk).1
        rw [heap_setCell_ne _ _ _ _ (by show k ≠ w.heap.size; omega), heap_setCell_ne _ _ _ _ (by show k ≠ w.heap.size; omega)]
      · rw [HI2.out]; intro h; cases h
      · rw [HI2.out]; intro h; cases h
      · rw [HI2.out]; exact .inl rfl
end Go.Proofs.YtafkpmjifgohcaaDoor
