/- The document's number of several bytes. -/
import Derived.Test.YtafkpmjifgohcaaDoorTokSame
namespace Go.Proofs.YtafkpmjifgohcaaDoor
open Go.RowKit

/-- A number of k bytes from a place on, the lowest first. -/
def Sk.numAt (s : List UInt8) : Nat → Nat → Nat
  | _, 0 => 0
  | p, k + 1 => (Sk.gt s p).toNat + 256 * Sk.numAt s (p + 1) k

theorem Sk.numAt_lt (s : List UInt8) : ∀ k p, Sk.numAt s p k < 256 ^ k
  | 0, _ => by simp [Sk.numAt]
  | k + 1, p => by
    have := Sk.numAt_lt s k (p + 1)
    have := UInt8.toNat_lt (Sk.gt s p)
    rw [Sk.numAt, Nat.pow_succ]
    omega

set_option maxHeartbeats 400000 in
theorem refNum_any (s : ByteArray) (p many : Nat) (w : World) (hs : s.size ≤ 1000000) (hm : many ≤ 4) (hp : p + many ≤ s.size) :
    Calls Tryd.prog 52 #[.string s, .int .i64 p, .int .i64 many] w fun e w' => e = .returned (.int .i64 (Sk.numAt s.data.toList p many)) ∧ w' = w := by
  go_enter Tryd.func52, Tryd.ntmps52
  go_wp2
  go_loop [7, 8] (fun a i => ∃ j x : Nat, j ≤ many ∧ i = .int .i64 ((j : Int) - 1) ∧ a = .int .i64 x ∧ x ≤ 4294967296 ∧ Sk.numAt s.data.toList (p + j) (many - j) = x) (fun _ i => (intOf i + 1).toNat)
  case atStart => exact ⟨many, 0, by omega, by go_num, rfl, by omega, by rw [Nat.sub_self]; rfl⟩
  case round =>
    obtain ⟨j, x, hj, rfl, rfl, hx, hinv⟩ := hrel
    have HI : Hid (Sk.numAt s.data.toList (p + j) (many - j) = x) := hinv
    clear hinv
    by_cases h0 : 0 < j
    · have h1 := str_idx s (p + j - 1) ((p : Int) + ((j : Int) - 1)) (by omega) (by omega)
      have hb := UInt8.toNat_lt (Sk.gt s.data.toList (p + j - 1))
      have HI2 : Hid (Sk.numAt s.data.toList (p + (j - 1)) (many - (j - 1)) = 256 * x + (Sk.gt s.data.toList (p + j - 1)).toNat) := by
        rw [show many - (j - 1) = (many - j) + 1 by omega, Sk.numAt, show p + (j - 1) + 1 = p + j by omega, HI.out, show p + (j - 1) = p + j - 1 by omega]
        show _ = _
        omega
      have hlt := Sk.numAt_lt s.data.toList (many - (j - 1)) (p + (j - 1))
      have hle : 256 ^ (many - (j - 1)) ≤ 256 ^ 4 := Nat.pow_le_pow_right (by decide) (by omega)
      have hx2 : 256 * x + (Sk.gt s.data.toList (p + j - 1)).toNat ≤ 4294967296 := by
        rw [HI2.out] at hlt
        have : (256 : Nat) ^ 4 = 4294967296 := by decide
        omega
      clear hlt hle
      generalize (Sk.gt s.data.toList (p + j - 1)).toNat = c at *
      go_wp2
      go_round
      case rel => exact ⟨j - 1, 256 * x + c, by omega, by go_num, by go_num, hx2, HI2.out⟩
      case measure => simp [intOf]; omega
    · obtain rfl : j = 0 := by omega
      go_wp2
      go_ret
      exact ⟨ret_nat (by rw [← HI.out]; rfl), rfl⟩

theorem refNum_at (s : ByteArray) (P M : Int) (p many : Nat) (w : World) (hP : P = p) (hM : M = many) (hs : s.size ≤ 1000000) (hm : many ≤ 4) (hp : p + many ≤ s.size) :
    Calls Tryd.prog 52 #[.string s, .int .i64 P, .int .i64 M] w fun e w' => e = .returned (.int .i64 (Sk.numAt s.data.toList p many)) ∧ w' = w := by
  subst hP hM
  exact refNum_any s p many w hs hm hp
end Go.Proofs.YtafkpmjifgohcaaDoor
