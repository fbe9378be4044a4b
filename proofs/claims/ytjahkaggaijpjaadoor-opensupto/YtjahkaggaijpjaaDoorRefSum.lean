/- The document's sum of a string's bytes. -/
import Derived.Test.YtjahkaggaijpjaaDoorTokSame
namespace Go.Proofs.YtjahkaggaijpjaaDoor
open Go.RowKit

set_option maxHeartbeats 400000 in
theorem refSum_any (s : ByteArray) (w : World) (hs : s.size ≤ 1000000) :
    Calls Tryd.prog 84 #[.string s] w fun e w' => e = .returned (.int .i64 (Sk.sumOf s.data.toList)) ∧ w' = w := by
  go_enter Tryd.func84, Tryd.ntmps84
  go_wp2
  go_loop [3, 4, 5] (fun a b i => ∃ k x y : Nat, k ≤ s.size ∧ i = .int .i64 k ∧ a = .int .i64 x ∧ b = .int .i64 y ∧ x < 65521 ∧ y < 65521 ∧ Sk.sumN (s.data.toList.drop k) x y = Sk.sumN s.data.toList 1 0) (fun _ _ i => s.size - (intOf i).toNat)
  case atStart => exact ⟨0, 1, 0, by omega, rfl, rfl, rfl, by omega, by omega, rfl⟩
  case round =>
    obtain ⟨k, x, y, hk, rfl, rfl, rfl, hx, hy, hinv⟩ := hrel
    have HI : Hid (Sk.sumN (s.data.toList.drop k) x y = Sk.sumN s.data.toList 1 0) := hinv
    clear hinv
    by_cases hlt : k < s.size
    · have h1 := str_idx s k k rfl hlt
      have hb := UInt8.toNat_lt (Sk.gt s.data.toList k)
      have HI2 : Hid (Sk.sumN (s.data.toList.drop (k + 1)) ((x + (Sk.gt s.data.toList k).toNat) % 65521) ((y + (x + (Sk.gt s.data.toList k).toNat) % 65521) % 65521) = Sk.sumN s.data.toList 1 0) := by
        have := HI.out
        rw [Sk.drop_gt _ _ (by simpa using hlt), Sk.sumN] at this
        exact this
      clear HI
      generalize (Sk.gt s.data.toList k).toNat = c at *
      go_wp2
      go_round
      case rel => exact ⟨k + 1, _, _, by omega, by go_num, by go_num, by go_num, Nat.mod_lt _ (by decide), Nat.mod_lt _ (by decide), HI2.out⟩
      case measure => simp [intOf]; omega
    · have HI2 : Hid ((x, y) = Sk.sumN s.data.toList 1 0) := by
        have := HI.out
        rw [List.drop_of_length_le (by simp; omega), Sk.sumN] at this
        exact this
      go_wp2
      go_ret
      exact ⟨ret_int (by unfold Sk.sumOf; rw [← HI2.out]; omega), rfl⟩
end Go.Proofs.YtjahkaggaijpjaaDoor
