/- The law's own number of an error. -/
import Derived.Test.YtafkpmjifgohcaaGreatDoorAlluptoPart23
import Derived.Test.YtafkpmjifgohcaaGreatDoorAlluptoPart30
import Derived.Stop.Asserts
namespace Go.Proofs.YtafkpmjifgohcaaGreatDoor
open Go.RowKit

set_option maxRecDepth 100000 in
set_option maxHeartbeats 1000000 in
theorem plain_bad (q : Addr) (A : Nat → Addr) (w : World) (hS : Sent w A) :
    Calls Tryz.prog 20 #[.iface 159 (.pointer (some q))] w fun e w' => e = .returned (.int .i64 9) ∧ w' = w := by
  have g0 := hS.cell 0 (by decide)
  have g1 := hS.cell 1 (by decide)
  have g2 := hS.cell 2 (by decide)
  have g3 := hS.cell 3 (by decide)
  have g4 := hS.cell 4 (by decide)
  simp only [gv] at g0 g1 g2 g3 g4
  have hne := fun i (W : World) => run_eql_iface_types (P := Tryz.prog) 159 175 (.pointer (some q)) (.pointer (some (A i))) Tryz.underlying53 (by decide) W
  have n0 := hne 0 w
  have n1 := hne 1 w
  have n2 := hne 2 w
  have n3 := hne 3 w
  have n4 := hne 4 w
  clear hS hne
  go_enter Tryz.func20, Tryz.ntmps20
  go_wp2
  go_ret
  exact ⟨rfl, rfl⟩

set_option maxHeartbeats 1000000 in
theorem number_nil (w : World) : Calls Tryz.prog 16 #[.nilIface] w fun e w' => e = .returned (.tuple #[.int .i64 0, .int .i64 0]) ∧ Below w.heap.size w w' := by
  go_enter Tryz.func16, Tryz.ntmps16
  go_wp2_with fail
  refine (plain_nil _).mono ?_
  rintro e w3 ⟨rfl, hw3⟩
  rw [hw3]
  clear hw3 w3
  go_wp2
  go_ret2
  exact ⟨rfl, Below.refl _ _⟩

set_option maxHeartbeats 1000000 in
theorem number_range (A : Nat → Addr) (w : World) (hS : Sent w A) : Calls Tryz.prog 16 #[.iface 175 (.pointer (some (A 4)))] w fun e w' => e = .returned (.tuple #[.int .i64 5, .int .i64 0]) ∧ Below w.heap.size w w' := by
  have HS : Hid (Sent w A) := hS
  clear hS
  go_enter Tryz.func16, Tryz.ntmps16
  go_wp2_with fail
  refine (plain_at A 4 (by decide) w HS.out).mono ?_
  rintro e w3 ⟨rfl, hw3⟩
  rw [hw3]
  clear hw3 w3
  go_wp2
  go_ret2
  exact ⟨rfl, Below.refl _ _⟩

set_option maxHeartbeats 2000000 in
theorem number_bad (B k why : Nat) (A : Nat → Addr) (v : Value) (w : World) (hw67 : why = 6 ∨ why = 7) (he : BadErr w B v k (A (why - 1))) (hS : SentB w A w.heap.size) (hT : ErrT w) :
    Calls Tryz.prog 16 #[v] w fun e w' => e = .returned (.tuple #[.int .i64 why, .int .i64 k]) ∧ Below w.heap.size w w' := by
  have HS : Hid (SentB w A w.heap.size) := hS
  have HT : Hid (ErrT w) := hT
  have HE : Hid (BadErr w B v k (A (why - 1))) := he
  obtain ⟨q, p, f, hv, _⟩ := he
  have hes5 := fun W : World => eq_same (W := W) (A 5)
  have hes6 := fun W : World => eq_same (W := W) (A 6)
  clear hS hT
  subst hv
  go_enter Tryz.func16, Tryz.ntmps16
  go_wp2_with fail
  refine (plain_bad _ A _ HS.out.s).mono ?_
  rintro e w3 ⟨rfl, hw3⟩
  rw [hw3]
  clear hw3 w3
  go_wp2_with fail
  refine (as_badErr B k (A (why - 1)) _ w _ HE.out HT.out ((Below.refl _ _).alloc (Nat.le_refl _) _) (heap_alloc_new _ _)).mono ?_
  rintro e w1 ⟨rfl, hb, p', hp', c0, c1, c2⟩
  have HB : Hid (Below w.heap.size w w1) := hb
  clear hb
  have g5 := (HS.out.below HB.out).s.cell 5 (by decide)
  have g6 := (HS.out.below HB.out).s.cell 6 (by decide)
  have h65 := (HS.out.below HB.out).s.ne 6 5 (by decide) (by decide) (by decide)
  simp only [gv] at g5 g6
  rcases hw67 with rfl | rfl
  · simp only [show (6 : Nat) - 1 = 5 from rfl] at c2
    go_wp2_with fail
    go_quiet (fail)
    go_wp2
    go_ret2
    exact ⟨rfl, below_drewN HB.out _⟩
  · simp only [show (7 : Nat) - 1 = 6 from rfl] at c2
    go_wp2_with fail
    go_quiet (fail)
    go_wp2
    go_ret2
    exact ⟨rfl, below_drewN HB.out _⟩
end Go.Proofs.YtafkpmjifgohcaaGreatDoor
