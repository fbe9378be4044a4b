/- damaged: the error that tells a bad block. -/
import Derived.Test.YtafkpmjifgohcaaDoorErrIs
namespace Go.Proofs.YtafkpmjifgohcaaDoor
open Go.RowKit Go.Extern.Stop Go.Stop Go.Extern

/-- An error that tells block k as bad, by the error at aw; its cells lie at B or behind. -/
def BadErr (w : World) (B : Nat) (e : Value) (k : Nat) (aw : Addr) : Prop :=
  ∃ q p f, e = .iface 151 (.pointer (some ⟨q, 0, none⟩)) ∧ B ≤ p ∧ B ≤ q ∧ w.heap[q]? = some (.cells #[.pointer (some ⟨p, 0, none⟩), f] 153 (0, 0)) ∧ w.heap[p]? = some (.cells #[.int .i64 k, .iface 170 (.pointer (some aw))] 27 (0, 0))

theorem badErr_two (w : World) (n : Nat) (aw : Addr) (f : Value) : ∃ v, Ending.returned (.iface 151 (.pointer (some ⟨w.heap.size + 1, 0, none⟩))) = .returned v ∧ BadErr ((w.alloc (.cells #[.int .i64 n, .iface 170 (.pointer (some aw))] 27)).alloc (.cells #[.pointer (some ⟨w.heap.size, 0, none⟩), f] 153)) w.heap.size v n aw ∧ Below w.heap.size w ((w.alloc (.cells #[.int .i64 n, .iface 170 (.pointer (some aw))] 27)).alloc (.cells #[.pointer (some ⟨w.heap.size, 0, none⟩), f] 153)) := by
  have hb : Below w.heap.size w (w.alloc (.cells #[.int .i64 n, .iface 170 (.pointer (some aw))] 27)) := (Below.refl _ _).alloc (Nat.le_refl _) _
  refine ⟨_, rfl, ⟨w.heap.size + 1, w.heap.size, f, rfl, Nat.le_refl _, Nat.le_succ _, ?_, ?_⟩, hb.alloc (by simp) _⟩
  · have := heap_alloc_new (w.alloc (.cells #[.int .i64 n, .iface 170 (.pointer (some aw))] 27)) (.cells #[.pointer (some ⟨w.heap.size, 0, none⟩), f] 153)
    simpa using this
  · have h2 : Below (w.heap.size + 1) (w.alloc (.cells #[.int .i64 n, .iface 170 (.pointer (some aw))] 27)) ((w.alloc (.cells #[.int .i64 n, .iface 170 (.pointer (some aw))] 27)).alloc (.cells #[.pointer (some ⟨w.heap.size, 0, none⟩), f] 153)) := (Below.refl _ _).alloc (by simp) _
    exact (h2.block w.heap.size (Nat.lt_succ_self _)).trans (heap_alloc_new w _)

set_option maxHeartbeats 1000000 in
theorem damaged_sum (n : Nat) (a5 a6 : Addr) (w : World) (h5 : w.cell? ⟨5, 0, none⟩ = some (.iface 170 (.pointer (some a5)))) (h6 : w.cell? ⟨6, 0, none⟩ = some (.iface 170 (.pointer (some a6)))) :
    Calls Tryd.prog 73 #[.int .i64 n, .iface 170 (.pointer (some a5))] w fun e w' => ∃ v, e = .returned v ∧ BadErr w' w.heap.size v n a5 ∧ Below w.heap.size w w' := by
  go_enter Tryd.func73, Tryd.ntmps73
  go_wp2_with fail
  refine (is_same a5 w).mono ?_
  rintro e w1 ⟨rfl, hw1⟩
  rw [hw1]
  clear hw1 w1
  go_wp2
  go_ret
  exact badErr_two w n a5 _
set_option maxHeartbeats 1000000 in
theorem damaged_tok (n pb : Nat) (a5 a6 : Addr) (ca cb : Array Value) (ta tb : TypeId) (w : World) (h5 : w.cell? ⟨5, 0, none⟩ = some (.iface 170 (.pointer (some a5)))) (h6 : w.cell? ⟨6, 0, none⟩ = some (.iface 170 (.pointer (some a6))))
    (hne : a6 ≠ a5) (ha : w.heap[a6.block]? = some (.cells ca ta (0, 0))) (hb : w.heap[a5.block]? = some (.cells cb tb (0, 0))) :
    Calls Tryd.prog 73 #[.int .i64 n, .iface 161 (.pointer (some ⟨pb, 0, none⟩))] w fun e w' => ∃ v, e = .returned v ∧ BadErr w' w.heap.size v n a6 ∧ Below w.heap.size w w' := by
  go_enter Tryd.func73, Tryd.ntmps73
  go_wp2_with fail
  refine (is_fault pb a5 a6 ca cb ta tb w h6 hne ha hb).mono ?_
  rintro e w1 ⟨rfl, hw1⟩
  rw [hw1]
  clear hw1 w1
  go_wp2
  go_ret
  exact badErr_two w n a6 _
end Go.Proofs.YtafkpmjifgohcaaDoor
