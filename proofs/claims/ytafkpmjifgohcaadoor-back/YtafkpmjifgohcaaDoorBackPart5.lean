/- The law's own pick and put.
A number that is read fits. -/
import Derived.Test.YtafkpmjifgohcaaDoorTokSame
namespace Go.Proofs.YtafkpmjifgohcaaDoor
open Go.RowKit

/-- A number that fits an int. -/
def Fits (c : Int) : Prop := -9223372036854775808 ≤ c ∧ c ≤ 9223372036854775807

theorem wrap_fits (c : Int) (h : Fits c) : IntKind.i64.wrap c = c := by
  obtain ⟨h1, h2⟩ := h
  rw [IntKind.wrap_i64]
  omega

set_option maxHeartbeats 400000 in
theorem pick_any (c : Int) (n : Nat) (w : World) (hc : Fits c) (hn : 0 < n) (hn2 : n ≤ 1000000000000000) :
    Calls Tryd.prog 28 #[.int .i64 c, .int .i64 n] w fun e w' => ∃ k : Nat, k < n ∧ e = .returned (.int .i64 k) ∧ w' = w := by
  by_cases h0 : 0 ≤ c
  · have HF : Hid (∃ k : Nat, k < n ∧ (k : Int) = c % (n : Int)) := by
      refine ⟨(c % (n : Int)).toNat, ?_, ?_⟩
      · have := Int.emod_lt_of_pos c (show (0 : Int) < n by omega); have := Int.emod_nonneg c (show (n : Int) ≠ 0 by omega); omega
      · have := Int.emod_nonneg c (show (n : Int) ≠ 0 by omega); omega
    have hnb : ((n : Int) == 0) = false := by rw [beq_eq_false_iff_ne]; omega
    clear hc
    go_enter Tryd.func28, Tryd.ntmps28
    go_wp2
    go_ret
    obtain ⟨k, hk, e⟩ := HF.out
    exact ⟨k, hk, ret_int (by rw [e]), rfl⟩
  · have h1 : Fits (c + 1) := ⟨by have := hc.1; omega, by omega⟩
    have h2 : Fits (-(c + 1)) := ⟨by omega, by have := hc.1; omega⟩
    have w1 := wrap_fits _ h1
    have w2 := wrap_fits _ h2
    obtain ⟨y, hy⟩ : ∃ y : Nat, (y : Int) = -(c + 1) := ⟨(-(c + 1)).toNat, by omega⟩
    have hneg : c < 0 := by omega
    clear hc h1 h2 h0
    go_enter Tryd.func28, Tryd.ntmps28
    go_wp2
    go_ret
    refine ⟨y % n, Nat.mod_lt _ hn, ret_int ?_, rfl⟩
    rw [← Int.neg_tmod, ← hy]
    exact Int.ofNat_tmod y n

theorem pick_at (c N : Int) (n : Nat) (w : World) (hN : N = n) (hc : Fits c) (hn : 0 < n) (hn2 : n ≤ 1000000000000000) :
    Calls Tryd.prog 28 #[.int .i64 c, .int .i64 N] w fun e w' => ∃ k : Nat, k < n ∧ e = .returned (.int .i64 k) ∧ w' = w := by
  subst hN
  exact pick_any c n w hc hn hn2

set_option maxHeartbeats 400000 in
theorem put_any (s t : ByteArray) (p : Nat) (w : World) (hs : s.size ≤ 1000000000000000) (hp : p + t.size ≤ s.size) :
    Calls Tryd.prog 50 #[.string s, .int .i64 p, .string t] w fun e w' => ∃ u : ByteArray, e = .returned (.string u) ∧ u.size = s.size ∧ ∃ q, w' = w.drewN q := by
  have h1 : (p : Int) ≤ (s.size : Int) := by omega
  have h2 : (p : Int) + (t.size : Int) ≤ (s.size : Int) := by omega
  go_enter Tryd.func50, Tryd.ntmps50
  go_wp2
  go_quiet (fail)
  go_wp2
  go_ret
  refine ⟨_, rfl, ?_, _, rfl⟩
  simp only [ByteArray.size_append, ByteArray.size_extract]
  omega

theorem put_at (s t : ByteArray) (P : Int) (p : Nat) (w : World) (hP : P = p) (hs : s.size ≤ 1000000000000000) (hp : p + t.size ≤ s.size) :
    Calls Tryd.prog 50 #[.string s, .int .i64 P, .string t] w fun e w' => ∃ u : ByteArray, e = .returned (.string u) ∧ u.size = s.size ∧ ∃ q, w' = w.drewN q := by
  subst hP
  exact put_any s t p w hs hp
end Go.Proofs.YtafkpmjifgohcaaDoor

namespace Go.Proofs.YtafkpmjifgohcaaDoor
open Go.RowKit

theorem fits_of_wf {n : Int} (h : (Lit.int .i64 n).wf = true) : Fits n := by
  have e1 : IntKind.i64.min = -9223372036854775808 := rfl
  have e2 : IntKind.i64.max = 9223372036854775807 := rfl
  simp [Lit.wf, e1, e2] at h
  exact h

end Go.Proofs.YtafkpmjifgohcaaDoor
