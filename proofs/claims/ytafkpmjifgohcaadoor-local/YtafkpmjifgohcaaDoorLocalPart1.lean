/- tokens.longest finds the best distance, as the document's search over all distances does.
The law's own pick and put.
A number that is read fits. -/
import Derived.Test.YtafkpmjifgohcaaDoorTokSame
namespace Go.Proofs.YtafkpmjifgohcaaDoor
open Go.RowKit

set_option maxHeartbeats 400000 in
theorem longest_any (s : ByteArray) (r p t : Nat) (w : World) (hs : s.size ≤ 1000000) (hr : r ≤ p) (hp : p ≤ t) (ht : t ≤ s.size) :
    Calls Tryd.prog 84 #[.string s, .int .i64 r, .int .i64 p, .int .i64 t] w fun e w' =>
      e = .returned (.tuple #[.int .i64 (Sk.bestN s.data.toList p (min (t - p) 131) (min (p - r) 65535) 1 0 0).2, .int .i64 (Sk.bestN s.data.toList p (min (t - p) 131) (min (p - r) 65535) 1 0 0).1]) ∧ ∃ q, w' = w.drewN q := by
  obtain ⟨m, hm⟩ : ∃ m, m = min (t - p) 131 := ⟨_, rfl⟩
  obtain ⟨f, hf⟩ : ∃ f, f = min (p - r) 65535 := ⟨_, rfl⟩
  have m1 : p + m ≤ t := by omega
  have m2 : m ≤ 131 := by omega
  have m3 : Hid (m = t - p ∨ m = 131) := by show _ ∨ _; omega
  have f1 : r + f ≤ p := by omega
  have f2 : f ≤ 65535 := by omega
  have f3 : Hid (f = p - r ∨ f = 65535) := by show _ ∨ _; omega
  have f4 : Hid (f = p - r ∨ p - r > 65535) := by show _ ∨ _; omega
  rw [← hm, ← hf]
  clear hm hf
  go_enter Tryd.func84, Tryd.ntmps84
  go_wp2
  all_goals
    first
      | rw [show (131 : Int) = (m : Int) from by have := m3.out; omega]
      | rw [show ((t : Int) - (p : Int)) = (m : Int) from by have := m3.out; omega]
    first
      | rw [show (65535 : Int) = (f : Int) from by have := f3.out; omega]
      | rw [show ((p : Int) - (r : Int)) = (f : Int) from by have := f3.out; omega]
    go_loopw [8, 9, 12] (fun b c i wr => ∃ d n far q : Nat, 1 ≤ d ∧ d ≤ f + 1 ∧ n ≤ m ∧ far < d ∧ i = .int .i64 d ∧ c = .int .i64 n ∧ b = .int .i64 far ∧ Sk.bestN s.data.toList p m (f + 1 - d) d n far = Sk.bestN s.data.toList p m f 1 0 0 ∧ wr = w.drewN q) (fun _ _ i _ => f + 1 - (intOf i).toNat)
    case atStart => exact ⟨1, 0, 0, 0, by omega, by omega, by omega, by omega, rfl, rfl, rfl, by rw [Nat.add_sub_cancel], rfl⟩
    case round =>
      obtain ⟨d, n, far, q, hd1, hd2, hn, hfar, rfl, rfl, rfl, hinv, rfl⟩ := hrel
      have HI : Hid (Sk.bestN s.data.toList p m (f + 1 - d) d n far = Sk.bestN s.data.toList p m f 1 0 0) := hinv
      clear hinv
      by_cases hlt : d ≤ f
      · by_cases hnm : n < m
        · have hle := (Sk.sameN_le s.data.toList (p - d) p m 0).2
          have HI1 : Hid (n < Sk.sameN s.data.toList (p - d) p m 0 → Sk.bestN s.data.toList p m (f + 1 - (d + 1)) (d + 1) (Sk.sameN s.data.toList (p - d) p m 0) d = Sk.bestN s.data.toList p m f 1 0 0) := fun h => by
            have := HI.out
            rw [show f + 1 - d = (f + 1 - (d + 1)) + 1 by omega, Sk.bestN, if_pos h] at this
            exact this
          have HI2 : Hid (¬ n < Sk.sameN s.data.toList (p - d) p m 0 → Sk.bestN s.data.toList p m (f + 1 - (d + 1)) (d + 1) n far = Sk.bestN s.data.toList p m f 1 0 0) := fun h => by
            have := HI.out
            rw [show f + 1 - d = (f + 1 - (d + 1)) + 1 by omega, Sk.bestN, if_neg h] at this
            exact this
          clear HI
          generalize hg : Sk.sameN s.data.toList (p - d) p m 0 = g at *
          have HG : Hid (Sk.sameN s.data.toList (p - d) p m 0 = g) := hg
          clear hg
          go_wp2_with (go_at_call 90; refine (same_at s _ _ _ (p - d) p m _ (by omega) rfl rfl hs (by omega) (by omega)).mono ?_; rw [HG.out]; rintro e w' ⟨rfl, q', rfl⟩)
          · have hgt : n < g := by assumption
            go_roundw
            case rel => exact ⟨d + 1, g, d, _, by omega, by omega, by omega, by omega, by go_num, by go_num, by go_num, HI1.out hgt, rfl⟩
            case measure => simp [intOf]; omega
          · have hgt : ¬ n < g := by assumption
            go_roundw
            case rel => exact ⟨d + 1, n, far, _, by omega, by omega, by omega, by omega, by go_num, by go_num, by go_num, HI2.out hgt, rfl⟩
            case measure => simp [intOf]; omega
        · have HI2 : Hid ((n, far) = Sk.bestN s.data.toList p m f 1 0 0) := by
            have := HI.out
            rw [Sk.bestN_full _ _ _ _ _ _ _ (by omega)] at this
            exact this
          clear HI
          go_wp2
          go_ret2
          exact ⟨ret_back HI2.out, _, rfl⟩
      · have HI2 : Hid ((n, far) = Sk.bestN s.data.toList p m f 1 0 0) := by
          have := HI.out
          rw [show f + 1 - d = 0 by omega, Sk.bestN] at this
          exact this
        clear HI
        go_wp2
        go_ret2
        exact ⟨ret_back HI2.out, _, rfl⟩

theorem longest_at (s : ByteArray) (R P T : Int) (r p t : Nat) (w : World) (hR : R = r) (hP : P = p) (hT : T = t) (hs : s.size ≤ 1000000) (hr : r ≤ p) (hp : p ≤ t) (ht : t ≤ s.size) :
    Calls Tryd.prog 84 #[.string s, .int .i64 R, .int .i64 P, .int .i64 T] w fun e w' =>
      e = .returned (.tuple #[.int .i64 (Sk.bestN s.data.toList p (min (t - p) 131) (min (p - r) 65535) 1 0 0).2, .int .i64 (Sk.bestN s.data.toList p (min (t - p) 131) (min (p - r) 65535) 1 0 0).1]) ∧ ∃ q, w' = w.drewN q := by
  subst hR hP hT
  exact longest_any s r p t w hs hr hp ht
end Go.Proofs.YtafkpmjifgohcaaDoor

namespace Go.Proofs.YtafkpmjifgohcaaDoor
open Go.RowKit

/-- A number that fits an int. -/
def Fits (c : Int) : Prop := -9223372036854775808 ≤ c ∧ c ≤ 9223372036854775807

theorem wrap_fits (c : Int) (h : Fits c) : IntKind.i64.wrap c = c := by
  obtain ⟨h1, h2⟩ := h
  rw [IntKind.wrap_i64]
  omega

set_option maxHeartbeats 400000 in
theorem pick_any (c : Int) (n : Nat) (w : World) (hc : Fits c) (hn : 0 < n) (hn2 : n ≤ 1000000000000000) :
    Calls Tryd.prog 28 #[.int .i64 c, .int .i64 n] w fun e w' => ∃ k : Nat, k < n ∧ e = .returned (.int .i64 k) ∧ w' = w := by
  by_cases h0 : 0 ≤ c
  · have HF : Hid (∃ k : Nat, k < n ∧ (k : Int) = c % (n : Int)) := by
      refine ⟨(c % (n : Int)).toNat, ?_, ?_⟩
      · have := Int.emod_lt_of_pos c (show (0 : Int) < n by omega); have := Int.emod_nonneg c (show (n : Int) ≠ 0 by omega); omega
      · have := Int.emod_nonneg c (show (n : Int) ≠ 0 by omega); omega
    have hnb : ((n : Int) == 0) = false := by rw [beq_eq_false_iff_ne]; omega
    clear hc
    go_enter Tryd.func28, Tryd.ntmps28
    go_wp2
    go_ret
    obtain ⟨k, hk, e⟩ := HF.out
    exact ⟨k, hk, ret_int (by rw [e]), rfl⟩
  · have h1 : Fits (c + 1) := ⟨by have := hc.1; omega, by omega⟩
    have h2 : Fits (-(c + 1)) := ⟨by omega, by have := hc.1; omega⟩
    have w1 := wrap_fits _ h1
    have w2 := wrap_fits _ h2
    obtain ⟨y, hy⟩ : ∃ y : Nat, (y : Int) = -(c + 1) := ⟨(-(c + 1)).toNat, by omega⟩
    have hneg : c < 0 := by omega
    clear hc h1 h2 h0
    go_enter Tryd.func28, Tryd.ntmps28
    go_wp2
    go_ret
    refine ⟨y % n, Nat.mod_lt _ hn, ret_int ?_, rfl⟩
    rw [← Int.neg_tmod, ← hy]
    exact Int.ofNat_tmod y n

theorem pick_at (c N : Int) (n : Nat) (w : World) (hN : N = n) (hc : Fits c) (hn : 0 < n) (hn2 : n ≤ 1000000000000000) :
    Calls Tryd.prog 28 #[.int .i64 c, .int .i64 N] w fun e w' => ∃ k : Nat, k < n ∧ e = .returned (.int .i64 k) ∧ w' = w := by
  subst hN
  exact pick_any c n w hc hn hn2

set_option maxHeartbeats 400000 in
theorem put_any (s t : ByteArray) (p : Nat) (w : World) (hs : s.size ≤ 1000000000000000) (hp : p + t.size ≤ s.size) :
    Calls Tryd.prog 50 #[.string s, .int .i64 p, .string t] w fun e w' => ∃ u : ByteArray, e = .returned (.string u) ∧ u.size = s.size ∧ ∃ q, w' = w.drewN q := by
  have h1 : (p : Int) ≤ (s.size : Int) := by omega
  have h2 : (p : Int) + (t.size : Int) ≤ (s.size : Int) := by omega
  go_enter Tryd.func50, Tryd.ntmps50
  go_wp2
  go_quiet (fail)
  go_wp2
  go_ret
  refine ⟨_, rfl, ?_, _, rfl⟩
  simp only [ByteArray.size_append, ByteArray.size_extract]
  omega

theorem put_at (s t : ByteArray) (P : Int) (p : Nat) (w : World) (hP : P = p) (hs : s.size ≤ 1000000000000000) (hp : p + t.size ≤ s.size) :
    Calls Tryd.prog 50 #[.string s, .int .i64 P, .string t] w fun e w' => ∃ u : ByteArray, e = .returned (.string u) ∧ u.size = s.size ∧ ∃ q, w' = w.drewN q := by
  subst hP
  exact put_any s t p w hs hp
end Go.Proofs.YtafkpmjifgohcaaDoor

namespace Go.Proofs.YtafkpmjifgohcaaDoor
open Go.RowKit

theorem fits_of_wf {n : Int} (h : (Lit.int .i64 n).wf = true) : Fits n := by
  have e1 : IntKind.i64.min = -9223372036854775808 := rfl
  have e2 : IntKind.i64.max = 9223372036854775807 := rfl
  simp [Lit.wf, e1, e2] at h
  exact h

end Go.Proofs.YtafkpmjifgohcaaDoor
