/- The program's Open, walked. -/
import Derived.Test.YtafkpmjifgohcaaDoorFileOpen
import Derived.Test.YtafkpmjifgohcaaDoorRefOpenB
import Derived.Lib.UnsafeStr
import Derived.Lib.BufferWrite
import Derived.Laws.MakeOwn
namespace Go.Proofs.YtafkpmjifgohcaaDoor
open Go.RowKit

theorem litePrefix_short (s : ByteArray) (w : World) (h : s.size < 3) :
    Calls Tryd.prog 57 #[.string s, .string ⟨#[83, 75, 49]⟩] w fun e w' => e = .returned (.bool false) ∧ w' = w := by
  have hi : (s.size : Int) < 3 := by omega
  have hz : (⟨#[83, 75, 49]⟩ : ByteArray).size = 3 := rfl
  go_enter Tryd.func57, Tryd.ntmps57
  go_wp2
  go_ret
  exact ⟨rfl, rfl⟩

theorem litePrefix_yes (s : ByteArray) (w : World) (h : 3 ≤ s.size) (hs : s.size ≤ 65536) (hm : s.extract 0 3 = ⟨#[83, 75, 49]⟩) :
    Calls Tryd.prog 57 #[.string s, .string ⟨#[83, 75, 49]⟩] w fun e w' => e = .returned (.bool true) ∧ w' = w := by
  have hi : (3 : Int) ≤ (s.size : Int) := by omega
  have hz : (⟨#[83, 75, 49]⟩ : ByteArray).size = 3 := rfl
  go_enter Tryd.func57, Tryd.ntmps57
  go_wp2
  go_ret
  exact ⟨rfl, rfl⟩

theorem litePrefix_no (s : ByteArray) (w : World) (h : 3 ≤ s.size) (hs : s.size ≤ 65536) (hm : (s.extract 0 3).toList ≠ [83, 75, 49]) :
    Calls Tryd.prog 57 #[.string s, .string ⟨#[83, 75, 49]⟩] w fun e w' => e = .returned (.bool false) ∧ w' = w := by
  have hi : (3 : Int) ≤ (s.size : Int) := by omega
  have hz : (⟨#[83, 75, 49]⟩ : ByteArray).size = 3 := rfl
  have hb : ((s.extract 0 3).toList == [83, 75, 49]) = false := by simpa using hm
  go_enter Tryd.func57, Tryd.ntmps57
  go_wp2
  go_ret
  exact ⟨by simp, rfl⟩

theorem prefix_at (s : ByteArray) (b : Bool) (w : World) (h : ∀ W, Calls Tryd.prog 57 #[.string s, .string ⟨#[83, 75, 49]⟩] W fun e w' => e = .returned (.bool b) ∧ w' = W) :
    Calls Tryd.prog 35 #[.string s, .string ⟨#[83, 75, 49]⟩] w fun e w' => e = .returned (.bool b) ∧ w' = w := by
  go_enter Tryd.func35, Tryd.ntmps35
  go_wp2_with fail
  refine (h _).mono ?_
  rintro e w' ⟨rfl, rfl⟩
  go_wp2
  go_ret
  exact ⟨rfl, rfl⟩

set_option maxHeartbeats 1000000 in
/-- A string's copy: the same bytes, in memory of the call's own. -/
theorem liteClone_any (s : ByteArray) (w : World) (hs : s.size ≤ 1000000) (h0 : 0 < s.size) :
    Calls Tryd.prog 61 #[.string s] w fun e w' => e = .returned (.string s) ∧ Below w.heap.size w w' := by
  obtain ⟨i, hi, hz, hsz, hby⟩ := info_parts Tryd.infoByte
  have hlen : s.data.toList.length = s.size := Array.length_toList
  obtain ⟨C, hC⟩ : ∃ C, C = madeCells (Value.int .u8 0).cells (s.size * i.size) := ⟨_, rfl⟩
  have hCs : C.size = s.size := by rw [hC, size_madeCells, hsz, Nat.mul_one]
  have mk := run_make (P := Tryd.prog) w 53 5 i (.int .u8 0) Tryd.underlying53 hi hz .i64 .i64 (s.size : Int) (s.size : Int) (by omega) (by omega) (by rw [hby]; omega) (by omega)
  simp only [Int.toNat_natCast] at mk
  rw [← hC] at mk
  have cp := Lib.run_copy_row_string (P := Tryd.prog) (w.alloc (.cells C 5)) 53 9 3 5 w.heap.size 0 s.size s.size s C 5 Tryd.underlying53 (by rw [hi]; simp [hsz]) (heap_alloc_new w _) (Nat.le_refl _) (by omega)
  have hrow : C.toList.take 0 ++ Lib.byteCells s.data.toList ++ C.toList.drop (0 + s.size) = Lib.byteCells s.data.toList := by
    rw [List.take_zero, List.nil_append, Nat.zero_add, List.drop_eq_nil_of_le (by rw [Array.length_toList]; omega), List.append_nil]
  rw [hrow] at cp
  obtain ⟨W, hW⟩ : ∃ W, W = (w.alloc (.cells C 5)).setRow w.heap.size (Lib.byteCells s.data.toList).toArray := ⟨_, rfl⟩
  have hWg : W.heap[w.heap.size]? = some (.cells (Lib.byteCells s.data.toList).toArray 5 (0, 0)) := by
    rw [hW]; exact setRow_heap _ _ C _ 5 (0, 0) (heap_alloc_new w _)
  have hWb : Below w.heap.size w W := by
    rw [hW]
    exact ((Below.refl _ w).alloc (Nat.le_refl _) _).trans ⟨rfl, rfl, rfl, by simp, fun k hk => setRow_other _ _ _ _ (by omega)⟩
  rw [← hW] at cp
  have us := Lib.run_unsafeString_row (P := Tryd.prog) W 134 3 9 5 Tryd.underlying134 (by simp [Program.cellsOf, hi, hsz]) w.heap.size s.size (by unfold World.shape?; rw [hWg]; simp [Lib.byteCells_length]) s.data.toList
    (fun e => by rw [e] at hlen; simp at hlen; omega) (by omega) (by omega) (fun j x hx => Lib.cells_of_row hWg s.size j _ (by rw [List.take_of_length_le (by simp [Lib.byteCells_length])]; simp [Lib.byteCells, hx]))
  rw [hlen] at us
  have HWB : Hid (Below w.heap.size w W) := hWb
  clear hW hWg hWb hrow hC hCs hlen
  have hpos : ((s.size : Int) == 0) = false := by rw [beq_eq_false_iff_ne]; omega
  have hlt : (0 : Int) < (s.size : Int) := by omega
  go_enter Tryd.func61, Tryd.ntmps61
  go_wp2
  go_ret
  exact ⟨rfl, Lib.below_freeze HWB.out (p := ⟨w.heap.size, 0, none⟩) (Nat.le_refl _) _⟩

theorem clone_any (s : ByteArray) (w : World) (hs : s.size ≤ 1000000) (h0 : 0 < s.size) :
    Calls Tryd.prog 37 #[.string s] w fun e w' => e = .returned (.string s) ∧ Below w.heap.size w w' := by
  go_enter Tryd.func37, Tryd.ntmps37
  go_wp2_with fail
  refine (liteClone_any s _ hs h0).mono ?_
  rintro e w' ⟨rfl, hb⟩
  go_wp2
  go_ret
  exact ⟨rfl, hb⟩
end Go.Proofs.YtafkpmjifgohcaaDoor
