/- The seven errors, in blocks that were there. -/
import Derived.Test.YtafkpmjifgohcaaDoorSent
import Derived.Test.YtafkpmjifgohcaaDoorEqAddr
import Derived.Test.YtafkpmjifgohcaaDoorFileOpenC
namespace Go.Proofs.YtafkpmjifgohcaaDoor
open Go.RowKit

/-- The errors, in blocks that were there. -/
structure SentB (w : World) (A : Nat → Addr) (B : Nat) : Prop where
  s : Sent w A
  l : 7 ≤ B
  a : ∀ i, i < 7 → (A i).block < B

theorem SentB.below {w w' : World} {A : Nat → Addr} {B : Nat} (h : SentB w A B) (hb : Below B w w') : SentB w' A B :=
  ⟨⟨fun i hi => (hb.cell (p := ⟨gv i, 0, none⟩) (by have := h.l; have := gv_lt i; show gv i < B; omega)).trans (h.s.cell i hi), h.s.apart, fun i hi => by
    obtain ⟨c, t, e⟩ := h.s.plain i hi
    exact ⟨c, t, (hb.block _ (h.a i hi)).trans e⟩⟩, h.l, h.a⟩
theorem SentB.errs {w : World} {A : Nat → Addr} {B : Nat} (h : SentB w A B) : Errs w A := h.s.cell

theorem Sent.ne {w : World} {A : Nat → Addr} (h : Sent w A) (i j : Nat) (hi : i < 7) (hj : j < 7) (hne : i ≠ j) :
    (binOp .eql 23 (.iface 170 (.pointer (some (A i)))) (.iface 170 (.pointer (some (A j))))).run Tryd.prog w = .ok (.bool false) w := by
  obtain ⟨c, t, e⟩ := h.plain i hi
  obtain ⟨c', t', e'⟩ := h.plain j hj
  exact eq_other (h.apart i j hi hj hne) e e'

end Go.Proofs.YtafkpmjifgohcaaDoor
