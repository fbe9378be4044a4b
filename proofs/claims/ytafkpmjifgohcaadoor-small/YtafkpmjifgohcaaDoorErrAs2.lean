/- damagedBlock; what an error that tells a bad block is to errors.As. -/
import Derived.Test.YtafkpmjifgohcaaDoorErrAs
namespace Go.Proofs.YtafkpmjifgohcaaDoor
open Go.RowKit

/-- The type of errors, as errors.As finds it. -/
def ErrT (w : World) : Prop := w.cell? ⟨7, 0, none⟩ = some (.iface 137 (.agg #[.pointer (some ⟨8, 23, none⟩)]))
theorem ErrT.below {w w' : World} (h : ErrT w) (hb : Below w.heap.size w w') : ErrT w' := (hb.cell (p := ⟨7, 0, none⟩) (cell_lt h)).trans h

theorem BadErr.below {w w' : World} {B C : Nat} {e : Value} {k : Nat} {aw : Addr} (h : BadErr w B e k aw) (hb : Below C w w') (hC : w.heap.size ≤ C) : BadErr w' B e k aw := by
  obtain ⟨q, p, f, he, h1, h2, h3, h4⟩ := h
  refine ⟨q, p, f, he, h1, h2, (hb.block q ?_).trans h3, (hb.block p ?_).trans h4⟩
  · rcases Nat.lt_or_ge q w.heap.size with c | c
    · omega
    · simp [Array.getElem?_eq_none c] at h3
  · rcases Nat.lt_or_ge p w.heap.size with c | c
    · omega
    · simp [Array.getElem?_eq_none c] at h4
theorem BadErr.mono {w : World} {B C : Nat} {e : Value} {k : Nat} {aw : Addr} (h : BadErr w B e k aw) (hC : C ≤ B) : BadErr w C e k aw := by
  obtain ⟨q, p, f, he, h1, h2, h3, h4⟩ := h
  exact ⟨q, p, f, he, by omega, by omega, h3, h4⟩

/-- errors.As sets the new variable; all else that was there stays. -/
theorem as_badErr (B k : Nat) (aw : Addr) (e : Value) (w0 W : World) (he : BadErr w0 B e k aw) (hg : ErrT w0) (hW : Below w0.heap.size w0 W) (ht : W.heap[w0.heap.size]? = some (.cells #[.pointer none] 25 (0, 0))) :
    Calls Tryd.prog 43 #[e, .iface 90 (.pointer (some ⟨w0.heap.size, 0, none⟩))] W fun ev w' => ev = .returned (.bool true) ∧ Below w0.heap.size w0 w' ∧
      ∃ p : Nat, p < w0.heap.size ∧ w'.cell? ⟨w0.heap.size, 0, none⟩ = some (.pointer (some ⟨p, 0, none⟩)) ∧ w'.cell? ⟨p, 0, none⟩ = some (.int .i64 k) ∧ w'.cell? ⟨p, 1, none⟩ = some (.iface 170 (.pointer (some aw))) := by
  obtain ⟨q, p, f, rfl, h1, h2, h3, h4⟩ := he
  have hq : q < w0.heap.size := by
    rcases Nat.lt_or_ge q w0.heap.size with c | c
    · exact c
    · simp [Array.getElem?_eq_none c] at h3
  have hp : p < w0.heap.size := by
    rcases Nat.lt_or_ge p w0.heap.size with c | c
    · exact c
    · simp [Array.getElem?_eq_none c] at h4
  have hct : W.cell? ⟨w0.heap.size, 0, none⟩ = some (.pointer none) := by simp [World.cell?, ht]
  refine (as_bad q ⟨p, 0, none⟩ ⟨w0.heap.size, 0, none⟩ (.pointer none) W ((hW.cell (p := ⟨7, 0, none⟩) (cell_lt hg)).trans hg) ((hW.cell (p := ⟨q, 0, none⟩) hq).trans (by simp [World.cell?, h3])) hct (by simp [World.frozen?, ht])).mono ?_
  rintro ev w' ⟨rfl, rfl⟩
  have hsz := hW.size
  have htl : w0.heap.size < W.heap.size := cell_lt hct
  have hb : Below W.heap.size W ((((W.alloc (.cells #[.pointer (some ⟨w0.heap.size, 0, none⟩)] 90)).alloc (.cells #[.pointer (some ⟨8, 90, none⟩), .pointer (some ⟨W.heap.size, 0, none⟩), .int .u64 150] 115)).alloc (.cells #[.pointer (some ⟨8, 90, none⟩), .pointer (some ⟨W.heap.size, 0, none⟩), .int .u64 150] 115)).alloc (.cells #[.pointer (some ⟨p, 0, none⟩)] 25)) :=
    ((((Below.refl _ _).alloc (Nat.le_refl _) _).alloc (by simp) _).alloc (by simp; omega) _).alloc (by simp; omega) _
  generalize ((((W.alloc (.cells #[.pointer (some ⟨w0.heap.size, 0, none⟩)] 90)).alloc (.cells #[.pointer (some ⟨8, 90, none⟩), .pointer (some ⟨W.heap.size, 0, none⟩), .int .u64 150] 115)).alloc (.cells #[.pointer (some ⟨8, 90, none⟩), .pointer (some ⟨W.heap.size, 0, none⟩), .int .u64 150] 115)).alloc (.cells #[.pointer (some ⟨p, 0, none⟩)] 25)) = W4 at hb ⊢
  have hB : Below w0.heap.size w0 (W4.setCell ⟨w0.heap.size, 0, none⟩ (.pointer (some ⟨p, 0, none⟩))) := (hW.trans (hb.mono hsz)).setCell (Nat.le_refl _) _
  refine ⟨rfl, hB, p, hp, World.cell?_setCell_same _ _ _ ((hb.cell (p := ⟨w0.heap.size, 0, none⟩) htl).trans hct), (hB.cell (p := ⟨p, 0, none⟩) hp).trans (by simp [World.cell?, h4]), (hB.cell (p := ⟨p, 1, none⟩) hp).trans (by simp [World.cell?, h4])⟩

set_option maxHeartbeats 1000000 in
theorem damagedBlock_nil (w : World) :
    Calls Tryd.prog 42 #[.nilIface] w fun e w' => e = .returned (.tuple #[.int .i64 0, .bool false]) ∧ Below w.heap.size w w' := by
  go_enter Tryd.func42, Tryd.ntmps42
  go_wp2_with fail
  refine (as_nil _ _).mono ?_
  rintro e w1 ⟨rfl, hw1⟩
  rw [hw1]
  clear hw1 w1
  go_wp2
  go_ret2
  exact ⟨rfl, (Below.refl _ _).alloc (Nat.le_refl _) _⟩

set_option maxHeartbeats 1000000 in
theorem damagedBlock_bad (B k : Nat) (aw : Addr) (v : Value) (w : World) (he : BadErr w B v k aw) (hg : ErrT w) :
    Calls Tryd.prog 42 #[v] w fun e w' => e = .returned (.tuple #[.int .i64 k, .bool true]) ∧ Below w.heap.size w w' := by
  have HE : Hid (BadErr w B v k aw) := he
  have HG : Hid (ErrT w) := hg
  obtain ⟨q, p, f, hv, _⟩ := he
  clear hg
  subst hv
  go_enter Tryd.func42, Tryd.ntmps42
  go_wp2_with fail
  refine (as_badErr B k aw _ w _ HE.out HG.out ((Below.refl _ _).alloc (Nat.le_refl _) _) (heap_alloc_new _ _)).mono ?_
  rintro e w1 ⟨rfl, hb, p', hp', c0, c1, c2⟩
  have HB : Hid (Below w.heap.size w w1) := hb
  clear hb
  go_wp2
  go_ret2
  exact ⟨rfl, HB.out⟩
end Go.Proofs.YtafkpmjifgohcaaDoor
