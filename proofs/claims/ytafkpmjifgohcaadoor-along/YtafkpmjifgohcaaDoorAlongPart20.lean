/- Frames by the blocks that may have changed. -/
import Derived.Test.YtafkpmjifgohcaaDoorRefOpenA
namespace Go.Proofs.YtafkpmjifgohcaaDoor
open Go.RowKit

/-- Of the old blocks only those in X may have changed. -/
structure Fr (X : Nat → Prop) (w w' : World) : Prop where
  os : w'.os = w.os
  tape : w'.tape = w.tape
  output : w'.output = w.output
  size : w.heap.size ≤ w'.heap.size
  block : ∀ k, k < w.heap.size → ¬ X k → w'.heap[k]? = w.heap[k]?

theorem Fr.refl (X : Nat → Prop) (w : World) : Fr X w w := ⟨rfl, rfl, rfl, Nat.le_refl _, fun _ _ _ => rfl⟩
theorem Fr.then {X Y : Nat → Prop} {w w1 w2 : World} (h : Fr X w w1) (h2 : Fr Y w1 w2) (hY : ∀ k, k < w.heap.size → Y k → X k) : Fr X w w2 :=
  ⟨h2.os.trans h.os, h2.tape.trans h.tape, h2.output.trans h.output, Nat.le_trans h.size h2.size, fun k hk hx => by rw [h2.block k (Nat.lt_of_lt_of_le hk h.size) (fun hy => hx (hY k hk hy)), h.block k hk hx]⟩
theorem Fr.mono {X Y : Nat → Prop} {w w' : World} (h : Fr X w w') (hY : ∀ k, X k → Y k) : Fr Y w w' :=
  ⟨h.os, h.tape, h.output, h.size, fun k hk hy => h.block k hk (fun hx => hy (hY k hx))⟩
theorem Gr.fr {w w' : World} {v v' : Value} (h : Gr w v w' v') : Fr (fun k => v.ownBlock = some k) w w' :=
  ⟨h.os, h.tape, h.output, h.size, fun k hk hx => h.block k hk (fun e => hx e.symm)⟩
theorem below_fr {w w' : World} (h : Below w.heap.size w w') (X : Nat → Prop) : Fr X w w' :=
  ⟨h.os, h.tape, h.output, h.size, fun k hk _ => h.block k hk⟩
theorem Fr.below {X : Nat → Prop} {w w' : World} {B : Nat} (h : Fr X w w') (hB : B ≤ w.heap.size) (hX : ∀ k, X k → B ≤ k) : Below B w w' :=
  ⟨h.os, h.tape, h.output, h.size, fun k hk => h.block k (by omega) (fun hx => by have := hX k hx; omega)⟩
theorem fr_setCell (w : World) (a : Addr) (x : Value) : Fr (fun k => k = a.block) w (w.setCell a x) :=
  ⟨rfl, rfl, rfl, by simp, fun k _ hx => heap_setCell_ne w a x k hx⟩
theorem fr_setCells (w : World) (g o : Nat) (vs : List Value) : Fr (fun k => k = g) w (w.setCells g o vs) :=
  ⟨World.os_setCells _ _ _ _, tape_setCells _ _ _ _, World.output_setCells _ _ _ _, by rw [size_setCells]; exact Nat.le_refl _, fun k hk hx => World.heap_setCells_other _ _ _ _ hk hx⟩
theorem fr_drewN (X : Nat → Prop) (w : World) (q : Nat) : Fr X w (w.drewN q) := ⟨rfl, rfl, rfl, Nat.le_refl _, fun _ _ _ => rfl⟩
end Go.Proofs.YtafkpmjifgohcaaDoor
