/- header.number and header.Read, walked. -/
import Derived.Test.YtafkpmjifgohcaaDoorRow
import Derived.Test.YtafkpmjifgohcaaDoorPureOpen2
import Derived.Laws.BitsLemmas
import Derived.Deep.RegionLaw
import Derived.Laws.ResultCell
import Derived.Test.YtafkpmjifgohcaaDoorEqAddr
namespace Go.Proofs.YtafkpmjifgohcaaDoor
open Go.RowKit

theorem u32_or (x y i : Nat) (hx : x < 2 ^ i) (hy : y * 2 ^ i < 2 ^ 32) (hi : i ≤ 32) (a b : Int) (ha : a = x) (hb : b = ((y * 2 ^ i : Nat) : Int)) : bits .or .u32 a b = ((x + y * 2 ^ i : Nat) : Int) := by
  subst ha hb
  have hx2 : x < 2 ^ 32 := Nat.lt_of_lt_of_le hx (Nat.pow_le_pow_right (by decide) hi)
  rw [(bits_nat .u32 32 (by decide) (fun n h0 h1 => by rw [IntKind.wrap_u32]; omega) x (y * 2 ^ i) hx2 hy).2]
  rw [Nat.or_comm, Nat.mul_comm, ← Nat.two_pow_add_eq_or_of_lt hx y, Nat.add_comm]

theorem or2 (c0 c1 : Nat) (b0 : c0 < 2 ^ 8) (b1 : c1 < 2 ^ 8) : bits .or .u32 (bits .or .u32 0 (c0 : Int)) ((c1 : Int) * 256) = ((c0 + 256 * c1 : Nat) : Int) := by
  rw [u32_or 0 c0 0 (by decide) (by omega) (by decide) 0 c0 rfl (by simp), u32_or _ c1 8 (by omega) (by omega) (by decide) _ _ rfl (by simp)]
  congr 1
  omega

set_option maxHeartbeats 400000 in
theorem number2 (t : ByteArray) (w : World) (ht : t.size = 2) :
    Calls Tryd.prog 77 #[.string t] w fun e w' => e = .returned (.int .u32 (Sk.numAt t.data.toList 0 2)) ∧ w' = w := by
  have h0 := str_idx t 0 0 rfl (by omega)
  have h1 := str_idx t 1 1 rfl (by omega)
  have b0 := UInt8.toNat_lt (Sk.gt t.data.toList 0)
  have b1 := UInt8.toNat_lt (Sk.gt t.data.toList 1)
  have HE : Hid (Sk.numAt t.data.toList 0 2 = (Sk.gt t.data.toList 0).toNat + 256 * (Sk.gt t.data.toList 1).toNat) := by
    show _ = _
    simp only [Sk.numAt, Nat.zero_add]; omega
  generalize (Sk.gt t.data.toList 0).toNat = c0 at *
  generalize (Sk.gt t.data.toList 1).toNat = c1 at *
  have hti : (t.size : Int) = 2 := by omega
  go_enter Tryd.func77, Tryd.ntmps77
  go_wp2
  refine wp_loop_rounds 3 ?_
  rw [rounds_succ]
  go_wp2
  rw [rounds_succ]
  go_wp2
  rw [rounds_succ]
  go_wp2
  go_ret
  exact ⟨ret_int (by rw [or2 c0 c1 b0 b1, HE.out]), rfl⟩

set_option maxHeartbeats 800000 in
theorem number4 (t : ByteArray) (w : World) (ht : t.size = 4) :
    Calls Tryd.prog 77 #[.string t] w fun e w' => e = .returned (.int .u32 (Sk.numAt t.data.toList 0 4)) ∧ w' = w := by
  have h0 := str_idx t 0 0 rfl (by omega)
  have h1 := str_idx t 1 1 rfl (by omega)
  have h2 := str_idx t 2 2 rfl (by omega)
  have h3 := str_idx t 3 3 rfl (by omega)
  have b0 := UInt8.toNat_lt (Sk.gt t.data.toList 0)
  have b1 := UInt8.toNat_lt (Sk.gt t.data.toList 1)
  have b2 := UInt8.toNat_lt (Sk.gt t.data.toList 2)
  have b3 := UInt8.toNat_lt (Sk.gt t.data.toList 3)
  have HE : Hid (Sk.numAt t.data.toList 0 4 = (Sk.gt t.data.toList 0).toNat + 256 * (Sk.gt t.data.toList 1).toNat + (Sk.gt t.data.toList 2).toNat * 2 ^ 16 + (Sk.gt t.data.toList 3).toNat * 2 ^ 24) := by
    show _ = _
    simp only [Sk.numAt, Nat.zero_add, Nat.reduceAdd]; omega
  generalize (Sk.gt t.data.toList 0).toNat = c0 at *
  generalize (Sk.gt t.data.toList 1).toNat = c1 at *
  generalize (Sk.gt t.data.toList 2).toNat = c2 at *
  generalize (Sk.gt t.data.toList 3).toNat = c3 at *
  have hti : (t.size : Int) = 4 := by omega
  go_enter Tryd.func77, Tryd.ntmps77
  go_wp2
  refine wp_loop_rounds 5 ?_
  rw [rounds_succ]
  go_wp2
  rw [rounds_succ]
  go_wp2
  rw [rounds_succ]
  go_wp2
  rw [rounds_succ]
  go_wp2
  rw [rounds_succ]
  go_wp2
  go_ret
  refine ⟨ret_int ?_, rfl⟩
  rw [or2 c0 c1 b0 b1, u32_or _ c2 16 (by omega) (by omega) (by decide) _ _ rfl (by simp), u32_or _ c3 24 (by omega) (by omega) (by decide) _ _ rfl (by simp), HE.out]

theorem gt_extract (r : ByteArray) (a b j : Nat) (hj : a + j < b) : Sk.gt (r.extract a b).data.toList j = Sk.gt r.data.toList (a + j) := by
  unfold Sk.gt
  have e : (r.extract a b).data.toList = (r.data.toList.drop a).take (b - a) := by
    rw [ByteArray.data_extract, Array.toList_extract]
  rw [e, List.getD_eq_getElem?_getD, List.getD_eq_getElem?_getD, List.getElem?_take, if_pos (by omega), List.getElem?_drop]

theorem numAt_extract (r : ByteArray) (a b : Nat) : ∀ k j, a + j + k ≤ b → Sk.numAt (r.extract a b).data.toList j k = Sk.numAt r.data.toList (a + j) k
  | 0, _, _ => rfl
  | k + 1, j, h => by rw [Sk.numAt, Sk.numAt, gt_extract r a b j (by omega), numAt_extract r a b k (j + 1) (by omega), Nat.add_assoc]

theorem cell_lt {w : World} {g j : Nat} {v : Value} (h : w.cell? ⟨g, j, none⟩ = some v) : g < w.heap.size := by
  rcases Nat.lt_or_ge g w.heap.size with h' | h'
  · exact h'
  · simp [World.cell?, Array.getElem?_eq_none h'] at h

/-- A world that is the old one, and blocks of the call's own. -/
theorem below_set {B : Nat} {w w' : World} (h : Below B w w') (g j : Nat) (x : Value) (hg : B ≤ g) : Below B w (w'.setCell ⟨g, j, none⟩ x) := h.setCell hg _

set_option maxHeartbeats 800000 in
theorem hdrRead_short (r : ByteArray) (a3 : Addr) (w : World) (h3 : w.cell? ⟨3, 0, none⟩ = some (.iface 170 (.pointer (some a3)))) (hr : r.size < 9) :
    Calls Tryd.prog 58 #[.string r] w fun e w' => e = .returned (.tuple #[.agg #[.bool false, .int .i64 0, .int .i64 0, .int .u32 0], .iface 170 (.pointer (some a3))]) ∧ Below w.heap.size w w' := by
  have hri : (r.size : Int) < 9 := by omega
  have h3' := cell?_alloc_old (W := w) (.cells #[.bool false, .int .i64 0, .int .i64 0, .int .u32 0] 105) h3
  have hlt := cell_lt h3
  go_enter Tryd.func58, Tryd.ntmps58
  go_wp2_with fail
  go_region
  all_goals (try go_wp2)
  all_goals (try simp only [Exit.inBlock, Exit.then])
  all_goals refine bodyPost_ret (v := .tuple #[.agg #[.bool false, .int .i64 0, .int .i64 0, .int .u32 0], .iface 170 (.pointer (some a3))]) ?_ rfl ⟨rfl, ?_⟩
  all_goals first
    | (rw [results_cell_tmp rfl]; go_simp)
    | (repeat' (first | exact Below.refl _ _ | refine Below.drew ?_ | refine Below.alloc ?_ (by simp) _ | refine below_set ?_ _ _ _ (by simp)))

set_option maxHeartbeats 2000000 in
theorem hdrRead_long (r : ByteArray) (a2 : Addr) (c n m x : Nat) (w : World) (h2 : w.cell? ⟨2, 0, none⟩ = some (.iface 170 (.pointer (some a2)))) (hr : 9 ≤ r.size) (hr2 : r.size ≤ 1000000)
    (hc : (Sk.gt r.data.toList 0).toNat = c) (hn : Sk.numAt r.data.toList 1 2 = n) (hm : Sk.numAt r.data.toList 3 2 = m) (hx : Sk.numAt r.data.toList 5 4 = x) :
    Calls Tryd.prog 58 #[.string r] w fun e w' => Below w.heap.size w w' ∧
      ((1 < c ∨ n < 1 ∨ 1024 < n) → e = .returned (.tuple #[.agg #[.bool false, .int .i64 0, .int .i64 0, .int .u32 0], .iface 170 (.pointer (some a2))])) ∧
      (¬ (1 < c ∨ n < 1 ∨ 1024 < n) → e = .returned (.tuple #[.agg #[.bool (c == 1), .int .i64 n, .int .i64 m, .int .u32 x], .nilIface])) := by
  have hri : (9 : Int) ≤ (r.size : Int) := by omega
  have h2' := cell?_alloc_old (W := w) (.cells #[.bool false, .int .i64 0, .int .i64 0, .int .u32 0] 105) h2
  have hlt := cell_lt h2
  have i0 := str_idx r 0 0 rfl (by omega)
  rw [hc] at i0
  have hc2 : c < 256 := by rw [← hc]; exact UInt8.toNat_lt _
  have hn2 : (n : Int) ≤ 70000 := by have : n < 65536 := by rw [← hn]; exact Sk.numAt_lt _ 2 _
                                     omega
  have hm2 : (m : Int) ≤ 70000 := by have : m < 65536 := by rw [← hm]; exact Sk.numAt_lt _ 2 _
                                     omega
  have n1 := fun W => number2 (r.extract 1 3) W (by rw [ByteArray.size_extract]; omega)
  have n2 := fun W => number2 (r.extract 3 5) W (by rw [ByteArray.size_extract]; omega)
  have n3 := fun W => number4 (r.extract 5 9) W (by rw [ByteArray.size_extract]; omega)
  rw [numAt_extract r 1 3 2 0 (by omega), hn] at n1
  rw [numAt_extract r 3 5 2 0 (by omega), hm] at n2
  rw [numAt_extract r 5 9 4 0 (by omega), hx] at n3
  have N1 : Hid _ := n1
  have N2 : Hid _ := n2
  have N3 : Hid _ := n3
  clear n1 n2 n3 hc hn hm hx
  have hfr : (((c : Int) == 1) : Bool) = (c == 1) := by
    by_cases h : c = 1
    · subst h; rfl
    · rw [beq_eq_false_iff_ne.2 h, beq_eq_false_iff_ne.2 (by omega)]
  by_cases hbad : 1 < c ∨ n < 1 ∨ 1024 < n
  · have hcase : ((1 : Int) < c) ∨ ((c : Int) ≤ 1 ∧ (n : Int) < 1) ∨ ((c : Int) ≤ 1 ∧ (1 : Int) ≤ n ∧ (1024 : Int) < n) := by omega
    have HBAD : Hid (1 < c ∨ n < 1 ∨ 1024 < n) := hbad
    clear hbad
    rcases hcase with b1 | ⟨b1, b2⟩ | ⟨b1, b2, b3⟩
    all_goals
      go_enter Tryd.func58, Tryd.ntmps58
      go_wp2_with (go_at_call 77; refine (N1.out _).mono ?_; rintro e w' ⟨rfl, rfl⟩)
      go_region
    all_goals (try go_wp2)
    all_goals (try simp only [Exit.inBlock, Exit.then])
    all_goals refine bodyPost_ret (v := .tuple #[.agg #[.bool false, .int .i64 0, .int .i64 0, .int .u32 0], .iface 170 (.pointer (some a2))]) ?_ rfl ⟨?_, fun _ => rfl, fun h => absurd HBAD.out h⟩
    all_goals first
      | (rw [results_cell_tmp rfl]; go_simp)
      | (repeat' (first | exact Below.refl _ _ | refine Below.drew ?_ | refine Below.alloc ?_ (by simp) _ | refine below_set ?_ _ _ _ (by simp)))
  · have b1 : (c : Int) ≤ 1 := by omega
    have b2 : (1 : Int) ≤ n := by omega
    have b3 : (n : Int) ≤ 1024 := by omega
    have HBAD : Hid (¬ (1 < c ∨ n < 1 ∨ 1024 < n)) := hbad
    clear hbad
    go_enter Tryd.func58, Tryd.ntmps58
    go_wp2_with (go_at_call 77; refine (N1.out _).mono ?_; rintro e w' ⟨rfl, rfl⟩)
    go_region_with (first | (go_at_call 77; with_reducible refine Calls.mono (N2.out _) ?_; rintro e w' ⟨rfl, rfl⟩) | (go_at_call 77; with_reducible refine Calls.mono (N3.out _) ?_; rintro e w' ⟨rfl, rfl⟩))
    all_goals (try go_wp2)
    all_goals (try simp only [Exit.inBlock, Exit.then])
    all_goals refine bodyPost_ret (v := .tuple #[.agg #[.bool (c == 1), .int .i64 n, .int .i64 m, .int .u32 x], .nilIface]) ?_ rfl ⟨?_, fun h => absurd h HBAD.out, fun _ => rfl⟩
    all_goals first
      | (rw [results_cell_tmp rfl]; go_simp; done)
      | (rw [results_cell_tmp rfl]; go_simp; rw [IntKind.wrap_i64]; omega)
      | (repeat' (first | exact Below.refl _ _ | refine Below.drew ?_ | refine Below.alloc ?_ (by simp) _ | refine below_set ?_ _ _ _ (by simp)))
end Go.Proofs.YtafkpmjifgohcaaDoor
