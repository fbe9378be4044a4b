/- (*index).add, walked. -/
import Derived.Test.YtafkpmjifgohcaaDoorIdxOpen
namespace Go.Proofs.YtafkpmjifgohcaaDoor
open Go.RowKit

set_option maxRecDepth 100000 in
set_option maxHeartbeats 4000000 in
theorem add_any (w : World) (B g : Nat) (s : List UInt8) (v : Value) (bs : List Sk.Blk) (d : Nat) (fr : Bool) (n m x p : Nat) (h : IFile w B g s v bs d) (hB : B ≤ w.heap.size) (hd : d ≤ 20000) (hn : n ≤ 1024) (hl : bs.length ≤ 20000) (hm : Sk.numAt s (p + 3) 2 = m) (hx : Sk.numAt s (p + 5) 4 = x) :
    Calls Tryd.prog 60 #[.pointer (some ⟨g, 0, none⟩), .agg #[.bool fr, .int .i64 n, .int .i64 m, .int .u32 x], .int .i64 p] w fun e w' => e = .returned (.tuple #[]) ∧ ∃ v', IFile w' B g s v' (bs ++ [⟨d, n, p, fr⟩]) (d + n) ∧ Below B w w' ∧ ∀ k, k < w.heap.size → k ≠ g → v.ownBlock ≠ some k → w'.heap[k]? = w.heap[k]? := by
  obtain ⟨vo, vcap, rfl⟩ := h.row.form
  have hlt := h.lt
  have h' := h.below ((Below.refl w.heap.size w).alloc (Nat.le_refl _) (.cells #[.bool fr, .int .i64 n, .int .i64 m, .int .u32 x] 105))
  have c0 := h'.cell 0
  have c1 := h'.cell 1
  simp at c0 c1
  have HF : Hid (IFile w B g s (.slice vo bs.length vcap) bs d) := h
  have HM : Hid (Sk.numAt s (p + 3) 2 = m) := hm
  have HX : Hid (Sk.numAt s (p + 5) 4 = x) := hx
  clear h h' hm hx
  go_enter Tryd.func60, Tryd.ntmps60
  go_wp2_with fail
  go_region
  have hz : ((w.alloc (.cells #[.bool fr, .int .i64 n, .int .i64 m, .int .u32 x] 105)).alloc (.cells #[.int .i64 d, .int .i64 n, .int .i64 p, .bool fr] 45)).drew.heap.size = w.heap.size + 1 + 1 := by simp
  have HB : Hid (Below w.heap.size w ((w.alloc (.cells #[.bool fr, .int .i64 n, .int .i64 m, .int .u32 x] 105)).alloc (.cells #[.int .i64 d, .int .i64 n, .int .i64 p, .bool fr] 45)).drew) := (((Below.refl _ _).alloc (Nat.le_refl _) _).alloc (by simp) _).drew
  have HF2 : Hid (IFile ((w.alloc (.cells #[.bool fr, .int .i64 n, .int .i64 m, .int .u32 x] 105)).alloc (.cells #[.int .i64 d, .int .i64 n, .int .i64 p, .bool fr] 45)).drew B g s (.slice vo bs.length vcap) bs d) := HF.out.below HB.out
  have k : ∀ j, ((w.alloc (.cells #[.bool fr, .int .i64 n, .int .i64 m, .int .u32 x] 105)).alloc (.cells #[.int .i64 d, .int .i64 n, .int .i64 p, .bool fr] 45)).drew.cell? ⟨w.heap.size, j, none⟩ = (#[.bool fr, .int .i64 n, .int .i64 m, .int .u32 x] : Array Value)[j]? := fun j => by
    exact (World.cell?_alloc_lt (w.alloc (.cells #[.bool fr, .int .i64 n, .int .i64 m, .int .u32 x] 105)) _ ⟨w.heap.size, j, none⟩ (by simp)).trans (World.cell?_alloc_new _ _ _ _)
  have k' : ∀ j, ((w.alloc (.cells #[.bool fr, .int .i64 n, .int .i64 m, .int .u32 x] 105)).alloc (.cells #[.int .i64 d, .int .i64 n, .int .i64 p, .bool fr] 45)).drew.cell? ⟨w.heap.size + 1, j, none⟩ = (#[.int .i64 d, .int .i64 n, .int .i64 p, .bool fr] : Array Value)[j]? := fun j => World.cell?_alloc_at (w := w.alloc (.cells #[.bool fr, .int .i64 n, .int .i64 m, .int .u32 x] 105)) _ _ _ _ (by simp)
  generalize ((w.alloc (.cells #[.bool fr, .int .i64 n, .int .i64 m, .int .u32 x] 105)).alloc (.cells #[.int .i64 d, .int .i64 n, .int .i64 p, .bool fr] 45)).drew = W2 at HB HF2 k k' hz ⊢
  clear c0 c1
  have d0 := HF2.out.cell 0
  have d1 := HF2.out.cell 1
  have g0 := HF2.out.free 0
  have g1 := HF2.out.free 1
  have k0 := k 0
  have k1 := k 1
  have k2 := k 2
  have k3 := k 3
  have q0 := k' 0
  have q1 := k' 1
  have q2 := k' 2
  have q3 := k' 3
  simp at d0 d1 k0 k1 k2 k3 q0 q1 q2 q3
  have HK : Hid (∀ j, W2.cell? ⟨w.heap.size, j, none⟩ = (#[.bool fr, .int .i64 n, .int .i64 m, .int .u32 x] : Array Value)[j]?) := k
  clear k k'
  have HS : Hid (Src Tryd.prog 6 37 (.slice (some ⟨W2.heap.size, 0, none⟩) 1 1) 1 [.int .i64 d, .int .i64 n, .int .i64 p, .bool fr, .int .i64 m, .int .u32 x] ((W2.alloc (.cells #[.int .i64 d, .int .i64 n, .int .i64 p, .bool fr, .int .i64 m, .int .u32 x] 80)).drew)) := by
    exact srcR_new W2.drew 37 80 Tryd.underlying37 #[.int .i64 d, .int .i64 n, .int .i64 p, .bool fr, .int .i64 m, .int .u32 x] 6 1 rfl (by intro u hu; simp at hu; rcases hu with rfl | rfl | rfl | rfl | rfl | rfl <;> rfl)
  have HF3 : Hid (IFile ((W2.alloc (.cells #[.int .i64 d, .int .i64 n, .int .i64 p, .bool fr, .int .i64 m, .int .u32 x] 80)).drew) B g s (.slice vo bs.length vcap) bs d) := HF2.out.below (((Below.refl _ _).alloc (Nat.le_refl _) _).drew)
  have HB3 : Hid (Below w.heap.size w ((W2.alloc (.cells #[.int .i64 d, .int .i64 n, .int .i64 p, .bool fr, .int .i64 m, .int .u32 x] 80)).drew)) := (HB.out.alloc (by omega) _).drew
  have hz2 : g < W2.heap.size := by omega
  have e0 := HF3.out.cell 0
  have e1 := HF3.out.free 0
  simp at e0
  have HZ : Hid (W2.heap.size = w.heap.size + 1 + 1) := hz
  clear hz
  go_wp2_with fail
  refine (fun hrest : Hid (∀ (g1 cap1 : Nat) (w4 : World), Rw w4 6 (.slice (some ⟨g1, 0, none⟩) (bs.length + 1) cap1) (bs.length + 1) (Sk.cellsE s bs ++ [.int .i64 d, .int .i64 n, .int .i64 p, .bool fr, .int .i64 m, .int .u32 x]) → Gr ((W2.alloc (.cells #[.int .i64 d, .int .i64 n, .int .i64 p, .bool fr, .int .i64 m, .int .u32 x] 80)).drew) (.slice vo bs.length vcap) w4 (.slice (some ⟨g1, 0, none⟩) (bs.length + 1) cap1) → (?P1 : Nat → Nat → World → Prop) g1 cap1 w4) => ?main1) ?rest1
  case main1 =>
    go_region_law ((refine step_append_rw (by rfl) (.tmp 21) (.tmp 28) 37 37 (by rfl) 80 _ 6 48 Tryd.underlying37 Tryd.infoEntry (by rfl) (.slice vo bs.length vcap) (.slice (some ⟨W2.heap.size, 0, none⟩) 1 1) bs.length 1 (Sk.cellsE s bs) [.int .i64 d, .int .i64 n, .int .i64 p, .bool fr, .int .i64 m, .int .u32 x] (by rfl) (by rfl) HF3.out.row HS.out (by decide) (by omega) (by omega) ?_; intro g1 cap1 w4 hr4 hg4; obtain ⟨z1, z2, z3, z4⟩ := HF3.out.after hg4; have HR4 : Hid (Rw w4 6 (.slice (some ⟨g1, 0, none⟩) (bs.length + 1) cap1) (bs.length + 1) (Sk.cellsE s bs ++ [.int .i64 d, .int .i64 n, .int .i64 p, .bool fr, .int .i64 m, .int .u32 x])) := hr4; have HG4 : Hid (Gr _ (.slice vo bs.length vcap) w4 (.slice (some ⟨g1, 0, none⟩) (bs.length + 1) cap1)) := hg4; clear hr4 hg4))
    all_goals exact hrest.out g1 cap1 w4 HR4.out HG4.out
  case rest1 =>
    unfold Hid
    intro g1 cap1 w4 hr4 hg4
    obtain ⟨z1, z2, z3, z4⟩ := HF3.out.after hg4
    have hgz := hg4.size
    have HF4 : Hid (IFile (w4.setCell ⟨g, 0, none⟩ (.slice (some ⟨g1, 0, none⟩) (bs.length + 1) cap1)) B g s (.slice (some ⟨g1, 0, none⟩) (bs.length + 1) cap1) (bs ++ [⟨d, n, p, fr⟩]) d) := HF3.out.more ⟨d, n, p, fr⟩ (by have := HB3.out.size; omega) (by show Rw w4 6 _ _ (Sk.cellsE s bs ++ [_, _, _, _, .int .i64 (Sk.numAt s (p + 3) 2), .int .u32 (Sk.numAt s (p + 5) 4)]); rw [HM.out, HX.out]; exact hr4) hg4
    have HB4 : Hid (Below B w (w4.setCell ⟨g, 0, none⟩ (.slice (some ⟨g1, 0, none⟩) (bs.length + 1) cap1))) := ((HB3.out.mono hB).trans (hg4.below (by have := HB3.out.size; omega) (fun k hk => (HF3.out.rowLow k hk).1))).setCell HF.out.low _
    have y1 : (w4.setCell ⟨g, 0, none⟩ (.slice (some ⟨g1, 0, none⟩) (bs.length + 1) cap1)).cell? ⟨w.heap.size, 1, none⟩ = some (.int .i64 n) := by
      rw [World.cell?_of_block (a := ⟨w.heap.size, 1, none⟩) (heap_setCell_ne _ _ _ _ (by show w.heap.size ≠ g; omega))]
      have hne : some w.heap.size ≠ (Value.slice vo bs.length vcap).ownBlock := fun e => by have := HF.out.row.lt _ e.symm; omega
      rw [World.cell?_of_block (a := ⟨w.heap.size, 1, none⟩) (hg4.block w.heap.size (by show w.heap.size < (W2.heap.push _).size; have := HZ.out; simp; omega) hne)]
      refine (World.cell?_alloc_lt W2 _ ⟨w.heap.size, 1, none⟩ (by show w.heap.size < W2.heap.size; have := HZ.out; omega)).trans k1
    have HK5 : Hid (∀ k, k < w.heap.size → k ≠ g → (Value.slice vo bs.length vcap).ownBlock ≠ some k → (w4.setCell ⟨g, 0, none⟩ (.slice (some ⟨g1, 0, none⟩) (bs.length + 1) cap1)).heap[k]? = w.heap[k]?) := fun k hk1 hk2 hk3 => by
      rw [heap_setCell_ne _ _ _ _ hk2, hg4.block k (by have := HB3.out.size; omega) (fun e => hk3 e.symm), HB3.out.block k hk1]
    have v1 := HF4.out.cell 1
    have v2 := HF4.out.free 1
    simp at v1
    generalize w4.setCell ⟨g, 0, none⟩ (.slice (some ⟨g1, 0, none⟩) (bs.length + 1) cap1) = W5 at HF4 HB4 HK5 y1 v1 v2 ⊢
    clear z1 z2 z3 z4 hr4 hg4 k0 k1 k2 k3 q0 q1 q2 q3 d0 d1 g0 e0 e1 hgz
    go_wp2_with fail
    go_region
    all_goals (try go_wp2)
    all_goals go_end0
    all_goals exact ⟨rfl, _, (HF4.out.data (d + n) _ (by omega)).below ((Below.refl _ _).drew), (HB4.out.setCell HF.out.low _).drew, fun k hk1 hk2 hk3 => (heap_setCell_ne W5 ⟨g, 1, none⟩ _ k hk2).trans (HK5.out k hk1 hk2 hk3)⟩
end Go.Proofs.YtafkpmjifgohcaaDoor
