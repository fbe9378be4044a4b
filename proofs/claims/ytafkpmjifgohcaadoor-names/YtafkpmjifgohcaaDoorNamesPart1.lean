/- Errors that are compared: pointers to cells.
The call of Names, walked: with the seven errors laid as pointers to seven different cells it returns true. -/
import Derived.Test.YtafkpmjifgohcaaDoorRows
import Derived.WalkKit
import Derived.WalkSpells
import Derived.WalkLawsBesides
import Derived.LaidEql
import Derived.Deep.QuietTactic
import Derived.BigQuiet
import Derived.Stop.LaidErr
namespace Go.Proofs.YtafkpmjifgohcaaDoor
open Go.RowKit

theorem Tryd.compErr : (Tryd.prog.info? 170).map (·.comparable) = some true := by kernel_rfl
theorem Tryd.sizeErr : (Tryd.prog.info? 189).map (·.size) = some 1 := by kernel_rfl

def errAt (a : Addr) : Value := .iface 170 (.pointer (some a))

theorem eq_other {W : World} {a b : Addr} {ca cb : Array Value} {ta tb : TypeId} (hne : a ≠ b) (ha : W.heap[a.block]? = some (.cells ca ta (0, 0))) (hb : W.heap[b.block]? = some (.cells cb tb (0, 0))) :
    (binOp .eql 23 (.iface 170 (.pointer (some a))) (.iface 170 (.pointer (some b)))).run Tryd.prog W = .ok (.bool false) W := by
  obtain ⟨i, hi, hcmp⟩ := Option.map_eq_some_iff.1 Tryd.compErr
  obtain ⟨j, hj, hjs⟩ := Option.map_eq_some_iff.1 Tryd.sizeErr
  exact run_eql_iface_ptr_other W Tryd.underlying23 Tryd.underlying170 hi hcmp hj (by rw [hjs]; decide) hne ha hb
theorem eq_same {W : World} (a : Addr) :
    (binOp .eql 23 (.iface 170 (.pointer (some a))) (.iface 170 (.pointer (some a)))).run Tryd.prog W = .ok (.bool true) W := by
  obtain ⟨i, hi, hcmp⟩ := Option.map_eq_some_iff.1 Tryd.compErr
  obtain ⟨j, hj, _⟩ := Option.map_eq_some_iff.1 Tryd.sizeErr
  exact run_eql_iface_ptr_same W a Tryd.underlying23 Tryd.underlying170 hi hcmp hj

end Go.Proofs.YtafkpmjifgohcaaDoor

namespace Go.Proofs.YtafkpmjifgohcaaDoor
open Go.RowKit

theorem row_cells (A : Nat → Addr) (w : World) (j : Nat) (hj : j < 7) :
    (w.alloc (.cells #[.iface 170 (.pointer (some (A 0))), .iface 170 (.pointer (some (A 1))), .iface 170 (.pointer (some (A 2))), .iface 170 (.pointer (some (A 3))), .iface 170 (.pointer (some (A 4))), .iface 170 (.pointer (some (A 5))), .iface 170 (.pointer (some (A 6)))] 23)).cell? ⟨w.heap.size, j, none⟩ = some (.iface 170 (.pointer (some (A j)))) := by
  match j, hj with
  | 0, _ => go_simp
  | 1, _ => go_simp
  | 2, _ => go_simp
  | 3, _ => go_simp
  | 4, _ => go_simp
  | 5, _ => go_simp
  | 6, _ => go_simp

theorem unwrap_any (b : Nat) (v : Value) (w : World) (h : w.cell? ⟨b, 1, none⟩ = some v) :
    Calls Tryd.prog 12 #[.pointer (some ⟨b, 0, none⟩)] w fun e w' => e = .returned v ∧ w' = w := by
  go_enter Tryd.func12, Tryd.ntmps12
  go_wp2
  go_ret
  exact ⟨rfl, rfl⟩

set_option maxHeartbeats 400000 in
theorem names_any (A : Nat → Addr) (w : World)
    (h0 : w.cell? ⟨0, 0, none⟩ = some (.iface 170 (.pointer (some (A 0)))))
    (h1 : w.cell? ⟨1, 0, none⟩ = some (.iface 170 (.pointer (some (A 1)))))
    (h2 : w.cell? ⟨2, 0, none⟩ = some (.iface 170 (.pointer (some (A 2)))))
    (h3 : w.cell? ⟨3, 0, none⟩ = some (.iface 170 (.pointer (some (A 3)))))
    (h4 : w.cell? ⟨4, 0, none⟩ = some (.iface 170 (.pointer (some (A 4)))))
    (h5 : w.cell? ⟨5, 0, none⟩ = some (.iface 170 (.pointer (some (A 5)))))
    (h6 : w.cell? ⟨6, 0, none⟩ = some (.iface 170 (.pointer (some (A 6)))))
    (hne : Hid (∀ i j, i < 7 → j < 7 → i ≠ j → A i ≠ A j)) (hb : Hid (∀ i, i < 7 → ∃ c t, w.heap[(A i).block]? = some (.cells c t (0, 0)))) :
    Calls Tryd.prog 3 #[] w fun e w' => e = .returned (.bool true) ∧ Below w.heap.size w w' := by
  have hlow : Hid (∀ i, i < 7 → (A i).block < w.heap.size) := fun i hi => by
    obtain ⟨c, t, h⟩ := hb.out i hi
    rcases Nat.lt_or_ge (A i).block w.heap.size with h' | h'
    · exact h'
    · simp [Array.getElem?_eq_none h'] at h
  go_enter Tryd.func3, Tryd.ntmps3
  go_wp2
  generalize hO : Obj.cells #[Value.iface 170 (.pointer (some (A 0))), .iface 170 (.pointer (some (A 1))), .iface 170 (.pointer (some (A 2))), .iface 170 (.pointer (some (A 3))), .iface 170 (.pointer (some (A 4))), .iface 170 (.pointer (some (A 5))), .iface 170 (.pointer (some (A 6)))] 23 = O
  have HO : Hid (Obj.cells #[Value.iface 170 (.pointer (some (A 0))), .iface 170 (.pointer (some (A 1))), .iface 170 (.pointer (some (A 2))), .iface 170 (.pointer (some (A 3))), .iface 170 (.pointer (some (A 4))), .iface 170 (.pointer (some (A 5))), .iface 170 (.pointer (some (A 6)))] 23 = O) := hO
  clear hO
  go_loopw [3] (fun i wr => ∃ k n : Nat, k ≤ 7 ∧ i = .int .i64 k ∧ wr = (w.alloc O).drewN n) (fun i _ => 7 - (intOf i).toNat)
  case atStart => exact ⟨0, 0, by omega, rfl, rfl⟩
  case round =>
    obtain ⟨k, n, hk, rfl, rfl⟩ := hrel
    by_cases hlt : k < 7
    · have hck : (w.alloc O).cell? ⟨w.heap.size, k, none⟩ = some (.iface 170 (.pointer (some (A k)))) := by
        have := row_cells A w k hlt; rw [HO.out] at this; exact this
      go_wp2
      go_loopw [4] (fun i wr => ∃ j n : Nat, j ≤ k ∧ i = .int .i64 j ∧ wr = (w.alloc O).drewN n) (fun i _ => k - (intOf i).toNat)
      case atStart => exact ⟨0, n, by omega, rfl, rfl⟩
      case round =>
        obtain ⟨j, m, hj, rfl, rfl⟩ := hrel
        by_cases hjk : j < k
        · have hcj : (w.alloc O).cell? ⟨w.heap.size, j, none⟩ = some (.iface 170 (.pointer (some (A j)))) := by
            have := row_cells A w j (by omega); rw [HO.out] at this; exact this
          obtain ⟨c1, t1, b1⟩ := hb.out k hlt
          obtain ⟨c2, t2, b2⟩ := hb.out j (by omega)
          have l1 := hlow.out k hlt
          have l2 := hlow.out j (by omega)
          have heq : ∀ q : Nat, (binOp .eql 23 (.iface 170 (.pointer (some (A k)))) (.iface 170 (.pointer (some (A j))))).run Tryd.prog ((w.alloc O).drewN q) = .ok (.bool false) ((w.alloc O).drewN q) := fun q => by
            refine eq_other (hne.out k j hlt (by omega) (by omega)) (ca := c1) (ta := t1) (cb := c2) (tb := t2) ?_ ?_
            · show (w.heap.push O)[_]? = _; rw [Array.getElem?_push, if_neg (Nat.ne_of_lt l1)]; exact b1
            · show (w.heap.push O)[_]? = _; rw [Array.getElem?_push, if_neg (Nat.ne_of_lt l2)]; exact b2
          clear b1 b2 l1 l2
          have hk7 : (k : Int) < 7 := by omega
          have hj7 : (j : Int) < 7 := by omega
          go_wp2
          go_region
          all_goals go_wp2
          go_roundw
          case rel => exact ⟨j + 1, m + 1, by omega, by go_num, rfl⟩
          case measure => simp [intOf]; omega
        · go_wp2
          go_roundw
          case rel => exact ⟨k + 1, m, by omega, by go_num, rfl⟩
          case measure => simp [intOf]; omega
    · have hp5 : (w.alloc O).cell? ⟨5, 0, none⟩ = some (.iface 170 (.pointer (some (A 5)))) := cell?_alloc_old O h5
      have hz : 6 < w.heap.size := by
        rcases Nat.lt_or_ge 6 w.heap.size with h | h
        · exact h
        · simp [World.cell?, Array.getElem?_eq_none h] at h6
      clear h0 h1 h2 h3 h4 h5 h6
      go_wp2
      have hs5 : ∀ W : World, (binOp .eql 23 (.iface 170 (.pointer (some (A 5)))) (.iface 170 (.pointer (some (A 5))))).run Tryd.prog W = .ok (.bool true) W := fun W => eq_same (A 5)
      have hx0 : (((w.alloc O).drewN n).alloc (.cells #[.int .i64 3, .iface 170 (.pointer (some (A 5)))] 27)).cell? ⟨w.heap.size + 1, 0, none⟩ = some (.int .i64 3) := by go_simp
      have hx1 : (((w.alloc O).drewN n).alloc (.cells #[.int .i64 3, .iface 170 (.pointer (some (A 5)))] 27)).cell? ⟨w.heap.size + 1, 1, none⟩ = some (.iface 170 (.pointer (some (A 5)))) := by go_simp
      have hx5 : (((w.alloc O).drewN n).alloc (.cells #[.int .i64 3, .iface 170 (.pointer (some (A 5)))] 27)).cell? ⟨5, 0, none⟩ = some (.iface 170 (.pointer (some (A 5)))) := cell?_alloc_old _ hp5
      have hbW : Hid (Below w.heap.size w (((w.alloc O).drewN n).alloc (.cells #[.int .i64 3, .iface 170 (.pointer (some (A 5)))] 27))) := (below_drewN ((Below.refl _ _).alloc (Nat.le_refl _) _) _).alloc (by simp) _
      generalize (((w.alloc O).drewN n).alloc (.cells #[.int .i64 3, .iface 170 (.pointer (some (A 5)))] 27)) = W at hx0 hx1 hx5 hbW ⊢
      clear hp5 hne hb hlow HO
      go_quiet ((go_at_call 12; exact Calls.quiet_of_same (unwrap_any (w.heap.size + 1) (.iface 170 (.pointer (some (A 5)))) _ hx1)))
      go_wp2
      go_ret
      exact ⟨rfl, below_drewN hbW.out _⟩
end Go.Proofs.YtafkpmjifgohcaaDoor
