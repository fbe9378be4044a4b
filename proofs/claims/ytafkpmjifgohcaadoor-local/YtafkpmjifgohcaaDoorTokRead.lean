/- tokens.read, walked: the token with which packed bytes begin. -/
import Derived.Test.YtafkpmjifgohcaaDoorHdrRead
import Derived.Test.YtafkpmjifgohcaaDoorPureRead2
namespace Go.Proofs.YtafkpmjifgohcaaDoor
open Go.RowKit

theorem i64_or (x y i : Nat) (hx : x < 2 ^ i) (hy : y * 2 ^ i < 2 ^ 62) (hi : i ≤ 62) (a b : Int) (ha : a = x) (hb : b = ((y * 2 ^ i : Nat) : Int)) : bits .or .i64 a b = ((x + y * 2 ^ i : Nat) : Int) := by
  subst ha hb
  have hx2 : x < 2 ^ 62 := Nat.lt_of_lt_of_le hx (Nat.pow_le_pow_right (by decide) hi)
  rw [(bits_nat .i64 62 (by decide) (fun n h0 h1 => by rw [IntKind.wrap_i64]; omega) x (y * 2 ^ i) hx2 hy).2]
  rw [Nat.or_comm, Nat.mul_comm, ← Nat.two_pow_add_eq_or_of_lt hx y, Nat.add_comm]

def tokZero : Value := .agg #[.string ⟨#[]⟩, .int .i64 0, .int .i64 0, .int .i64 0]

set_option maxHeartbeats 1000000 in
theorem readRun_no (r : ByteArray) (n : Nat) (w : World) (_hr : r.size ≤ 1000000) (hn : n ≤ 1000) (h : r.size < 1 + n) :
    Calls Tryd.prog 91 #[.string r, .int .i64 n] w fun e w' => e = .returned (.tuple #[.agg #[.string ⟨#[]⟩, .int .i64 0, .int .i64 0, .int .i64 0], .bool false]) ∧ Below w.heap.size w w' := by
  have hi : (r.size : Int) < 1 + (n : Int) := by omega
  go_enter Tryd.func91, Tryd.ntmps91
  go_wp2
  (try simp only [Exit.inBlock, Exit.then])
  refine bodyPost_ret (v := .tuple #[.agg #[.string ⟨#[]⟩, .int .i64 0, .int .i64 0, .int .i64 0], .bool false]) ?_ rfl ⟨rfl, ?_⟩
  · rw [results_cell_tmp rfl]; go_simp
  · repeat' (first | exact Below.refl _ _ | refine Below.drew ?_ | refine Below.alloc ?_ (by simp) _ | refine below_set ?_ _ _ _ (by simp))

set_option maxHeartbeats 1000000 in
theorem readRun_yes (r : ByteArray) (n : Nat) (w : World) (_hr : r.size ≤ 1000000) (hn : n ≤ 1000) (h : 1 + n ≤ r.size) :
    Calls Tryd.prog 91 #[.string r, .int .i64 n] w fun e w' => e = .returned (.tuple #[.agg #[.string (r.extract 1 (1 + n)), .int .i64 0, .int .i64 n, .int .i64 ((1 : Int) + n)], .bool true]) ∧ Below w.heap.size w w' := by
  have hi : 1 + (n : Int) ≤ (r.size : Int) := by omega
  go_enter Tryd.func91, Tryd.ntmps91
  go_wp2
  (try simp only [Exit.inBlock, Exit.then])
  refine bodyPost_ret (v := .tuple #[.agg #[.string (r.extract 1 (1 + n)), .int .i64 0, .int .i64 n, .int .i64 ((1 : Int) + n)], .bool true]) ?_ rfl ⟨rfl, ?_⟩
  · rw [results_cell_tmp rfl]; go_simp
  · repeat' (first | exact Below.refl _ _ | refine Below.drew ?_ | refine Below.alloc ?_ (by simp) _ | refine below_set ?_ _ _ _ (by simp))

set_option maxHeartbeats 1000000 in
theorem readCopy_no (r : ByteArray) (n : Nat) (w : World) (h : r.size < 3) :
    Calls Tryd.prog 92 #[.string r, .int .i64 n] w fun e w' => e = .returned (.tuple #[.agg #[.string ⟨#[]⟩, .int .i64 0, .int .i64 0, .int .i64 0], .bool false]) ∧ Below w.heap.size w w' := by
  have hi : (r.size : Int) < 3 := by omega
  go_enter Tryd.func92, Tryd.ntmps92
  go_wp2
  (try simp only [Exit.inBlock, Exit.then])
  refine bodyPost_ret (v := .tuple #[.agg #[.string ⟨#[]⟩, .int .i64 0, .int .i64 0, .int .i64 0], .bool false]) ?_ rfl ⟨rfl, ?_⟩
  · rw [results_cell_tmp rfl]; go_simp
  · repeat' (first | exact Below.refl _ _ | refine Below.drew ?_ | refine Below.alloc ?_ (by simp) _ | refine below_set ?_ _ _ _ (by simp))

set_option maxHeartbeats 1000000 in
theorem readCopy_yes (r : ByteArray) (n d : Nat) (w : World) (hr : r.size ≤ 1000000) (h : 3 ≤ r.size) (hd : Sk.numAt r.data.toList 1 2 = d) :
    Calls Tryd.prog 92 #[.string r, .int .i64 n] w fun e w' => e = .returned (.tuple #[.agg #[.string ⟨#[]⟩, .int .i64 d, .int .i64 n, .int .i64 3], .bool (decide ((0 : Int) < d))]) ∧ Below w.heap.size w w' := by
  have hi : (3 : Int) ≤ (r.size : Int) := by omega
  have h1 := str_idx r 1 1 rfl (by omega)
  have h2 := str_idx r 2 2 rfl (by omega)
  have b1 := UInt8.toNat_lt (Sk.gt r.data.toList 1)
  have b2 := UInt8.toNat_lt (Sk.gt r.data.toList 2)
  have HE : Hid (d = (Sk.gt r.data.toList 1).toNat + (Sk.gt r.data.toList 2).toNat * 2 ^ 8) := by
    show _ = _
    rw [← hd]
    simp only [Sk.numAt, Nat.reduceAdd]; omega
  clear hd
  generalize (Sk.gt r.data.toList 1).toNat = c1 at *
  generalize (Sk.gt r.data.toList 2).toNat = c2 at *
  have HO : Hid (bits .or .i64 (c1 : Int) ((c2 : Int) * 256) = (d : Int)) := by
    show _ = _
    rw [i64_or c1 c2 8 (by omega) (by omega) (by decide) _ _ rfl (by simp), HE.out]
  have hor := HO.out
  have hd2 : (d : Int) ≤ 70000 := by have := HE.out; omega
  go_enter Tryd.func92, Tryd.ntmps92
  go_wp2_with fail
  go_quiet (fail)
  go_wp2
  (try simp only [Exit.inBlock, Exit.then])
  refine bodyPost_ret (v := .tuple #[.agg #[.string ⟨#[]⟩, .int .i64 d, .int .i64 n, .int .i64 3], .bool (decide ((0 : Int) < d))]) ?_ rfl ⟨rfl, ?_⟩
  · rw [results_cell_tmp rfl]; go_simp
  · repeat' (first | exact Below.refl _ _ | refine Below.drew ?_ | refine below_drewN ?_ _ | refine Below.alloc ?_ (by simp) _ | refine below_set ?_ _ _ _ (by simp))

set_option maxHeartbeats 1000000 in
/-- A run. -/
theorem read_run (r : ByteArray) (c : Nat) (w : World) (hr : r.size ≤ 1000000) (h0 : 0 < r.size) (hc : (Sk.gt r.data.toList 0).toNat = c) (h128 : c < 128) :
    Calls Tryd.prog 88 #[.string r] w fun e w' => Below w.heap.size w w' ∧
      (r.size < 2 + c → ∃ t, e = .returned (.tuple #[.agg #[.string ⟨#[]⟩, .int .i64 0, .int .i64 0, .int .i64 t], .bool false])) ∧
      (2 + c ≤ r.size → e = .returned (.tuple #[.agg #[.string (r.extract 1 (2 + c)), .int .i64 0, .int .i64 ((c : Int) + 1), .int .i64 ((c : Int) + 2)], .bool true])) := by
  have i0 := str_idx r 0 0 rfl (by omega)
  rw [hc] at i0
  have hci : (c : Int) < 128 := by omega
  have hlt : (0 : Int) < (r.size : Int) := by omega
  clear hc
  by_cases h : r.size < 2 + c
  · go_enter Tryd.func88, Tryd.ntmps88
    go_wp2_with fail
    refine (readRun_no r (c + 1) _ hr (by omega) (by omega)).mono ?_
    rintro e w1 ⟨rfl, hb⟩
    have HB : Hid (Below w.heap.size w w1) := ((Below.refl _ _).alloc (Nat.le_refl _) _).trans (hb.mono (by simp))
    obtain ⟨z0, z1, z2, z3⟩ : w1.cell? ⟨w.heap.size, 0, none⟩ = some (.string ⟨#[]⟩) ∧ w1.cell? ⟨w.heap.size, 1, none⟩ = some (.int .i64 0) ∧ w1.cell? ⟨w.heap.size, 2, none⟩ = some (.int .i64 0) ∧ w1.cell? ⟨w.heap.size, 3, none⟩ = some (.int .i64 0) := by
      refine ⟨?_, ?_, ?_, ?_⟩ <;> exact (hb.cell (p := ⟨w.heap.size, _, none⟩) (by simp)).trans (by simp)
    have hz : w.heap.size < w1.heap.size := by have := hb.size; simp at this; omega
    have fz : ∀ j, w1.frozen? ⟨w.heap.size, j, none⟩ = false := fun j => by
      have := hb.block w.heap.size (by simp)
      rw [World.frozen?_of_block (a := ⟨w.heap.size, j, none⟩) this]
      exact World.frozen?_alloc_at _ _ _ _ rfl
    have y0 := fz 0
    have y1 := fz 1
    have y2 := fz 2
    have y3 := fz 3
    clear hb fz
    go_wp2
    (try simp only [Exit.inBlock, Exit.then])
    refine bodyPost_ret (v := .tuple #[.agg #[.string ⟨#[]⟩, .int .i64 0, .int .i64 0, .int .i64 0], .bool false]) ?_ rfl ⟨?_, fun _ => ⟨0, rfl⟩, fun h' => absurd h (by omega)⟩
    · rw [results_cell_tmp rfl]; go_simp
    · repeat' (first | exact HB.out | refine Below.drew ?_ | refine below_set ?_ _ _ _ (by simp))
  · have he : ((c + 1 : Nat) : Int) = (c : Int) + 1 := rfl
    go_enter Tryd.func88, Tryd.ntmps88
    go_wp2_with fail
    refine (readRun_yes r (c + 1) _ hr (by omega) (by omega)).mono ?_
    rintro e w1 ⟨rfl, hb⟩
    rw [show 1 + (c + 1) = 2 + c by omega, show (1 : Int) + ((c + 1 : Nat) : Int) = (c : Int) + 2 by omega, he]
    have HB : Hid (Below w.heap.size w w1) := ((Below.refl _ _).alloc (Nat.le_refl _) _).trans (hb.mono (by simp))
    obtain ⟨z0, z1, z2, z3⟩ : w1.cell? ⟨w.heap.size, 0, none⟩ = some (.string ⟨#[]⟩) ∧ w1.cell? ⟨w.heap.size, 1, none⟩ = some (.int .i64 0) ∧ w1.cell? ⟨w.heap.size, 2, none⟩ = some (.int .i64 0) ∧ w1.cell? ⟨w.heap.size, 3, none⟩ = some (.int .i64 0) := by
      refine ⟨?_, ?_, ?_, ?_⟩ <;> exact (hb.cell (p := ⟨w.heap.size, _, none⟩) (by simp)).trans (by simp)
    have hz : w.heap.size < w1.heap.size := by have := hb.size; simp at this; omega
    have fz : ∀ j, w1.frozen? ⟨w.heap.size, j, none⟩ = false := fun j => by
      have := hb.block w.heap.size (by simp)
      rw [World.frozen?_of_block (a := ⟨w.heap.size, j, none⟩) this]
      exact World.frozen?_alloc_at _ _ _ _ rfl
    have y0 := fz 0
    have y1 := fz 1
    have y2 := fz 2
    have y3 := fz 3
    clear hb fz he
    go_wp2
    (try simp only [Exit.inBlock, Exit.then])
    refine bodyPost_ret (v := .tuple #[.agg #[.string (r.extract 1 (2 + c)), .int .i64 0, .int .i64 ((c : Int) + 1), .int .i64 ((c : Int) + 2)], .bool true]) ?_ rfl ⟨?_, fun h' => absurd h' h, fun _ => rfl⟩
    · rw [results_cell_tmp rfl]; go_simp
    · repeat' (first | exact HB.out | refine Below.drew ?_ | refine below_set ?_ _ _ _ (by simp))

set_option maxRecDepth 100000 in
set_option maxHeartbeats 1000000 in
/-- A copy. -/
theorem read_copy (r : ByteArray) (c d : Nat) (w : World) (hr : r.size ≤ 1000000) (h0 : 0 < r.size) (hc : (Sk.gt r.data.toList 0).toNat = c) (h128 : 128 ≤ c) (hd : Sk.numAt r.data.toList 1 2 = d) :
    Calls Tryd.prog 88 #[.string r] w fun e w' => Below w.heap.size w w' ∧
      (r.size < 3 → ∃ t, e = .returned (.tuple #[.agg #[.string ⟨#[]⟩, .int .i64 0, .int .i64 0, .int .i64 t], .bool false])) ∧
      (3 ≤ r.size → e = .returned (.tuple #[.agg #[.string ⟨#[]⟩, .int .i64 d, .int .i64 ((c - 128 + 4 : Nat) : Int), .int .i64 3], .bool (decide ((0 : Int) < d))])) := by
  have i0 := str_idx r 0 0 rfl (by omega)
  have hcl := UInt8.toNat_lt (Sk.gt r.data.toList 0)
  rw [hc] at i0 hcl
  have HD : Hid (Sk.numAt r.data.toList 1 2 = d) := hd
  have hci : (128 : Int) ≤ (c : Int) := by omega
  have hc256 : (c : Int) < 256 := by omega
  have hlt : (0 : Int) < (r.size : Int) := by omega
  clear hc hd hcl h128
  obtain ⟨n, hn⟩ : ∃ n : Nat, (c : Int) - 128 + 4 = (n : Int) ∧ n = c - 128 + 4 := ⟨c - 128 + 4, by omega, rfl⟩
  obtain ⟨hn1, hn2⟩ := hn
  rw [← hn2]
  have HN1 : Hid ((c : Int) - 128 + 4 = (n : Int)) := hn1
  clear hn1 hn2
  by_cases h : r.size < 3
  · go_enter Tryd.func88, Tryd.ntmps88
    go_wp2_with fail
    rw [HN1.out]
    refine (readCopy_no r n _ h).mono ?_
    rintro e w1 ⟨rfl, hb⟩
    have HB : Hid (Below w.heap.size w w1) := ((Below.refl _ _).alloc (Nat.le_refl _) _).trans (hb.mono (by simp))
    obtain ⟨z0, z1, z2, z3⟩ : w1.cell? ⟨w.heap.size, 0, none⟩ = some (.string ⟨#[]⟩) ∧ w1.cell? ⟨w.heap.size, 1, none⟩ = some (.int .i64 0) ∧ w1.cell? ⟨w.heap.size, 2, none⟩ = some (.int .i64 0) ∧ w1.cell? ⟨w.heap.size, 3, none⟩ = some (.int .i64 0) := by
      refine ⟨?_, ?_, ?_, ?_⟩ <;> exact (hb.cell (p := ⟨w.heap.size, _, none⟩) (by simp)).trans (by simp)
    have hz : w.heap.size < w1.heap.size := by have := hb.size; simp at this; omega
    have fz : ∀ j, w1.frozen? ⟨w.heap.size, j, none⟩ = false := fun j => by
      have := hb.block w.heap.size (by simp)
      rw [World.frozen?_of_block (a := ⟨w.heap.size, j, none⟩) this]
      exact World.frozen?_alloc_at _ _ _ _ rfl
    have y0 := fz 0
    have y1 := fz 1
    have y2 := fz 2
    have y3 := fz 3
    clear hb fz
    go_wp2
    (try simp only [Exit.inBlock, Exit.then])
    refine bodyPost_ret (v := .tuple #[.agg #[.string ⟨#[]⟩, .int .i64 0, .int .i64 0, .int .i64 0], .bool false]) ?_ rfl ⟨?_, fun _ => ⟨0, rfl⟩, fun h' => absurd h (by omega)⟩
    · rw [results_cell_tmp rfl]; go_simp
    · repeat' (first | exact HB.out | refine Below.drew ?_ | refine below_set ?_ _ _ _ (by simp))
  · go_enter Tryd.func88, Tryd.ntmps88
    go_wp2_with fail
    rw [HN1.out]
    refine (readCopy_yes r n d _ hr (by omega) HD.out).mono ?_
    rintro e w1 ⟨rfl, hb⟩
    have HB : Hid (Below w.heap.size w w1) := ((Below.refl _ _).alloc (Nat.le_refl _) _).trans (hb.mono (by simp))
    obtain ⟨z0, z1, z2, z3⟩ : w1.cell? ⟨w.heap.size, 0, none⟩ = some (.string ⟨#[]⟩) ∧ w1.cell? ⟨w.heap.size, 1, none⟩ = some (.int .i64 0) ∧ w1.cell? ⟨w.heap.size, 2, none⟩ = some (.int .i64 0) ∧ w1.cell? ⟨w.heap.size, 3, none⟩ = some (.int .i64 0) := by
      refine ⟨?_, ?_, ?_, ?_⟩ <;> exact (hb.cell (p := ⟨w.heap.size, _, none⟩) (by simp)).trans (by simp)
    have hz : w.heap.size < w1.heap.size := by have := hb.size; simp at this; omega
    have fz : ∀ j, w1.frozen? ⟨w.heap.size, j, none⟩ = false := fun j => by
      have := hb.block w.heap.size (by simp)
      rw [World.frozen?_of_block (a := ⟨w.heap.size, j, none⟩) this]
      exact World.frozen?_alloc_at _ _ _ _ rfl
    have y0 := fz 0
    have y1 := fz 1
    have y2 := fz 2
    have y3 := fz 3
    clear hb fz
    obtain ⟨bb, hbb⟩ : ∃ bb, bb = decide ((0 : Int) < d) := ⟨_, rfl⟩
    rw [← hbb]
    have HBB : Hid (bb = decide ((0 : Int) < d)) := hbb
    clear hbb
    go_wp2
    (try simp only [Exit.inBlock, Exit.then])
    refine bodyPost_ret (v := .tuple #[.agg #[.string ⟨#[]⟩, .int .i64 d, .int .i64 n, .int .i64 3], .bool bb]) ?_ rfl ⟨?_, fun h' => absurd h' h, fun _ => by rw [HBB.out]⟩
    · rw [results_cell_tmp rfl]; go_simp
    · repeat' (first | exact HB.out | refine Below.drew ?_ | refine below_set ?_ _ _ _ (by simp))
end Go.Proofs.YtafkpmjifgohcaaDoor
