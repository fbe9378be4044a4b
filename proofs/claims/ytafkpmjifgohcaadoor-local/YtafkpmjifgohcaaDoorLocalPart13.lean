/- The document's bytes of a number, the lowest first. -/
import Derived.Test.YtafkpmjifgohcaaDoorTokSame
import Derived.Laws.IdiomStrings
namespace Go.Proofs.YtafkpmjifgohcaaDoor
open Go.RowKit

/-- A slice of one byte that was just made, as a string. -/
theorem one_byte (W : World) (c : Int) (h0 : 0 ≤ c) (h1 : c < 256) :
    (convert 53 9 (.slice (some ⟨W.heap.size, 0, none⟩) 1 1)).run Tryd.prog (W.alloc (.cells #[.int .u8 c] 5)) = .ok (.string ⟨#[UInt8.ofNat c.toNat]⟩) (W.alloc (.cells #[.int .u8 c] 5)) := by
  have := run_convert_bytes_back (P := Tryd.prog) (W.alloc (.cells #[.int .u8 c] 5)) 53 9 5 ⟨W.heap.size, 0, none⟩ 1 [UInt8.ofNat c.toNat] Tryd.underlying53 Tryd.underlying5 Tryd.underlying9 (by
    intro j hj
    have : j = 0 := by simpa using hj
    subst this
    have e : ((UInt8.ofNat c.toNat).toNat : Int) = c := by simp [UInt8.toNat_ofNat']; omega
    have e2 : (⟨W.heap.size, 0, none⟩ : Addr).add 0 = ⟨W.heap.size, 0, none⟩ := by simp [Addr.add]
    rw [e2, World.cell?_alloc_new]
    show some _ = some (Value.int .u8 ((UInt8.ofNat c.toNat).toNat : Int))
    rw [e]
    rfl)
  exact this

set_option maxHeartbeats 400000 in
theorem refBytes_any (n many : Nat) (w : World) (hn : n ≤ 4294967296) (hm : many ≤ 8) :
    Calls Tryd.prog 47 #[.int .i64 n, .int .i64 many] w fun e w' => e = .returned (.string ⟨(Sk.le n many).toArray⟩) ∧ Below w.heap.size w w' := by
  go_enter Tryd.func47, Tryd.ntmps47
  go_wp2
  go_loopw [0, 5, 6] (fun a s i wr => ∃ k x : Nat, k ≤ many ∧ i = .int .i64 k ∧ a = .int .i64 x ∧ x ≤ 4294967296 ∧ ∃ l : List UInt8, l.length = k ∧ s = .string ⟨l.toArray⟩ ∧ l ++ Sk.le x (many - k) = Sk.le n many ∧ Below w.heap.size w wr) (fun _ _ i _ => many - (intOf i).toNat)
  case atStart => exact ⟨0, n, by omega, rfl, rfl, hn, [], rfl, rfl, rfl, Below.refl _ _⟩
  case round =>
    obtain ⟨k, x, hk, rfl, rfl, hx, l, hl, rfl, hinv, hb⟩ := hrel
    have HI : Hid (l ++ Sk.le x (many - k) = Sk.le n many) := hinv
    have HL : Hid (l.length = k) := hl
    clear hinv hl
    by_cases hlt : k < many
    · have hcv := fun W => one_byte W ((x : Int) % 256) (by omega) (by omega)
      have hl8 : l.length ≤ 8 := by have := HL.out; omega
      have HI2 : Hid ((l ++ [UInt8.ofNat (x % 256)]) ++ Sk.le (x / 256) (many - (k + 1)) = Sk.le n many) := by
        have := HI.out
        rw [show many - k = (many - (k + 1)) + 1 by omega, Sk.le] at this
        rw [List.append_assoc]
        exact this
      clear HI
      have hxx : x / 256 ≤ 4294967296 := by omega
      go_wp2
      go_roundw
      case rel =>
        refine ⟨k + 1, x / 256, by omega, by go_num, by go_num, hxx, l ++ [UInt8.ofNat (x % 256)], by simp [HL.out], ?_, HI2.out, hb.alloc hb.size _⟩
        exact congrArg Value.string (cat_str l [UInt8.ofNat (x % 256)])
      case measure => simp [intOf]; omega
    · have HI2 : Hid (l = Sk.le n many) := by
        have := HI.out
        rw [show many - k = 0 by omega, Sk.le, List.append_nil] at this
        exact this
      go_wp2
      go_ret
      exact ⟨ret_str HI2.out, hb⟩

theorem refBytes_at (X M : Int) (n many : Nat) (w : World) (hX : X = n) (hM : M = many) (hn : n ≤ 4294967296) (hm : many ≤ 8) :
    Calls Tryd.prog 47 #[.int .i64 X, .int .i64 M] w fun e w' => e = .returned (.string ⟨(Sk.le n many).toArray⟩) ∧ Below w.heap.size w w' := by
  subst hX hM
  exact refBytes_any n many w hn hm
end Go.Proofs.YtafkpmjifgohcaaDoor
