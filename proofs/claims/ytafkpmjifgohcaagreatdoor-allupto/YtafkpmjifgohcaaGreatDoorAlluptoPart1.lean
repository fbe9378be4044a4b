/- The law's own pick and put.
The document's search over all distances.
The document's sum of a string's bytes.
tokens.longest finds the best distance, as the document's search over all distances does.
A number that is read fits. -/
import Derived.Test.YtafkpmjifgohcaaGreatDoorTokSame
namespace Go.Proofs.YtafkpmjifgohcaaGreatDoor
open Go.RowKit

/-- A number that fits an int. -/
def Fits (c : Int) : Prop := -9223372036854775808 ≤ c ∧ c ≤ 9223372036854775807

theorem wrap_fits (c : Int) (h : Fits c) : IntKind.i64.wrap c = c := by
  obtain ⟨h1, h2⟩ := h
  rw [IntKind.wrap_i64]
  omega

set_option maxHeartbeats 400000 in
theorem pick_any (c : Int) (n : Nat) (w : World) (hc : Fits c) (hn : 0 < n) (hn2 : n ≤ 1000000000000000) :
    Calls Tryz.prog 11 #[.int .i64 c, .int .i64 n] w fun e w' => ∃ k : Nat, k < n ∧ e = .returned (.int .i64 k) ∧ w' = w := by
  by_cases h0 : 0 ≤ c
  · have HF : Hid (∃ k : Nat, k < n ∧ (k : Int) = c % (n : Int)) := by
      refine ⟨(c % (n : Int)).toNat, ?_, ?_⟩
      · have := Int.emod_lt_of_pos c (show (0 : Int) < n by omega); have := Int.emod_nonneg c (show (n : Int) ≠ 0 by omega); omega
      · have := Int.emod_nonneg c (show (n : Int) ≠ 0 by omega); omega
    have hnb : ((n : Int) == 0) = false := by rw [beq_eq_false_iff_ne]; omega
    clear hc
    go_enter Tryz.func11, Tryz.ntmps11
    go_wp2
    go_ret
    obtain ⟨k, hk, e⟩ := HF.out
    exact ⟨k, hk, ret_int (by rw [e]), rfl⟩
  · have h1 : Fits (c + 1) := ⟨by have := hc.1; omega, by omega⟩
    have h2 : Fits (-(c + 1)) := ⟨by omega, by have := hc.1; omega⟩
    have w1 := wrap_fits _ h1
    have w2 := wrap_fits _ h2
    obtain ⟨y, hy⟩ : ∃ y : Nat, (y : Int) = -(c + 1) := ⟨(-(c + 1)).toNat, by omega⟩
    have hneg : c < 0 := by omega
    clear hc h1 h2 h0
    go_enter Tryz.func11, Tryz.ntmps11
    go_wp2
    go_ret
    refine ⟨y % n, Nat.mod_lt _ hn, ret_int ?_, rfl⟩
    rw [← Int.neg_tmod, ← hy]
    exact Int.ofNat_tmod y n

theorem pick_at (c N : Int) (n : Nat) (w : World) (hN : N = n) (hc : Fits c) (hn : 0 < n) (hn2 : n ≤ 1000000000000000) :
    Calls Tryz.prog 11 #[.int .i64 c, .int .i64 N] w fun e w' => ∃ k : Nat, k < n ∧ e = .returned (.int .i64 k) ∧ w' = w := by
  subst hN
  exact pick_any c n w hc hn hn2

set_option maxHeartbeats 400000 in
theorem put_any (s t : ByteArray) (p : Nat) (w : World) (hs : s.size ≤ 1000000000000000) (hp : p + t.size ≤ s.size) :
    Calls Tryz.prog 39 #[.string s, .int .i64 p, .string t] w fun e w' => ∃ u : ByteArray, e = .returned (.string u) ∧ u.size = s.size ∧ ∃ q, w' = w.drewN q := by
  have h1 : (p : Int) ≤ (s.size : Int) := by omega
  have h2 : (p : Int) + (t.size : Int) ≤ (s.size : Int) := by omega
  go_enter Tryz.func39, Tryz.ntmps39
  go_wp2
  go_quiet (fail)
  go_wp2
  go_ret
  refine ⟨_, rfl, ?_, _, rfl⟩
  simp only [ByteArray.size_append, ByteArray.size_extract]
  omega

theorem put_at (s t : ByteArray) (P : Int) (p : Nat) (w : World) (hP : P = p) (hs : s.size ≤ 1000000000000000) (hp : p + t.size ≤ s.size) :
    Calls Tryz.prog 39 #[.string s, .int .i64 P, .string t] w fun e w' => ∃ u : ByteArray, e = .returned (.string u) ∧ u.size = s.size ∧ ∃ q, w' = w.drewN q := by
  subst hP
  exact put_any s t p w hs hp
end Go.Proofs.YtafkpmjifgohcaaGreatDoor

namespace Go.Proofs.YtafkpmjifgohcaaGreatDoor
open Go.RowKit

set_option maxHeartbeats 800000 in
theorem refMatch_any (s : ByteArray) (r p t : Nat) (w : World) (hs : s.size ≤ 1000000) (hr : r ≤ p) (hp : p ≤ t) (ht : t ≤ s.size) :
    Calls Tryz.prog 60 #[.string s, .int .i64 r, .int .i64 p, .int .i64 t] w fun e w' =>
      e = .returned (.tuple #[.int .i64 (Sk.bestN s.data.toList p (min (t - p) 131) (min (p - r) 65535) 1 0 0).1, .int .i64 (Sk.bestN s.data.toList p (min (t - p) 131) (min (p - r) 65535) 1 0 0).2]) ∧ ∃ q, w' = w.drewN q := by
  obtain ⟨m, hm⟩ : ∃ m, m = min (t - p) 131 := ⟨_, rfl⟩
  obtain ⟨f, hf⟩ : ∃ f, f = min (p - r) 65535 := ⟨_, rfl⟩
  have m1 : p + m ≤ t := by omega
  have m2 : m ≤ 131 := by omega
  have m3 : Hid (m = t - p ∨ m = 131) := by show _ ∨ _; omega
  have f1 : r + f ≤ p := by omega
  have f2 : f ≤ 65535 := by omega
  have f3 : Hid (f = p - r ∨ f = 65535) := by show _ ∨ _; omega
  rw [← hm, ← hf]
  clear hm hf
  go_enter Tryz.func60, Tryz.ntmps60
  go_wp2
  go_loopw [10, 11, 12] (fun c b i wr => ∃ d n far q : Nat, 1 ≤ d ∧ d ≤ f + 1 ∧ n ≤ m ∧ far < d ∧ i = .int .i64 d ∧ c = .int .i64 n ∧ b = .int .i64 far ∧ Sk.bestN s.data.toList p m (f + 1 - d) d n far = Sk.bestN s.data.toList p m f 1 0 0 ∧ wr = w.drewN q) (fun _ _ i _ => f + 1 - (intOf i).toNat)
  case atStart => exact ⟨1, 0, 0, 0, by omega, by omega, by omega, by omega, rfl, rfl, rfl, by rw [Nat.add_sub_cancel], rfl⟩
  case round =>
    obtain ⟨d, n, far, q, hd1, hd2, hn, hfar, rfl, rfl, rfl, hinv, rfl⟩ := hrel
    have HI : Hid (Sk.bestN s.data.toList p m (f + 1 - d) d n far = Sk.bestN s.data.toList p m f 1 0 0) := hinv
    clear hinv
    by_cases hlt : d ≤ f
    · have hle := (Sk.sameN_le s.data.toList (p - d) p m 0).2
      have HI1 : Hid (n < Sk.sameN s.data.toList (p - d) p m 0 → Sk.bestN s.data.toList p m (f + 1 - (d + 1)) (d + 1) (Sk.sameN s.data.toList (p - d) p m 0) d = Sk.bestN s.data.toList p m f 1 0 0) := fun h => by
        have := HI.out
        rw [show f + 1 - d = (f + 1 - (d + 1)) + 1 by omega, Sk.bestN, if_pos h] at this
        exact this
      have HI2 : Hid (¬ n < Sk.sameN s.data.toList (p - d) p m 0 → Sk.bestN s.data.toList p m (f + 1 - (d + 1)) (d + 1) n far = Sk.bestN s.data.toList p m f 1 0 0) := fun h => by
        have := HI.out
        rw [show f + 1 - d = (f + 1 - (d + 1)) + 1 by omega, Sk.bestN, if_neg h] at this
        exact this
      clear HI
      have h1 : (d : Int) ≤ 65535 := by omega
      have h2 : (r : Int) ≤ (p : Int) - d := by omega
      generalize hg : Sk.sameN s.data.toList (p - d) p m 0 = g at *
      have HG : Hid (Sk.sameN s.data.toList (p - d) p m 0 = g) := hg
      clear hg
      go_wp2
      go_loopw [13] (fun i wr => ∃ k q : Nat, k ≤ m ∧ i = .int .i64 k ∧ Sk.sameN s.data.toList (p - d) p (m - k) k = g ∧ wr = w.drewN q) (fun i _ => m - (intOf i).toNat)
      case atStart => exact ⟨0, q, by omega, rfl, HG.out, rfl⟩
      case round =>
        obtain ⟨k, q1, hk, rfl, hinv, rfl⟩ := hrel
        have HJ : Hid (Sk.sameN s.data.toList (p - d) p (m - k) k = g) := hinv
        clear hinv
        by_cases hkm : k < m
        · have a1 : (p : Int) + k < t := by omega
          have a2 : (k : Int) < 131 := by omega
          have a3 := str_idx s (p + k) ((p : Int) + k) (by omega) (by omega)
          have a4 := str_idx s (p - d + k) ((p : Int) + k - d) (by omega) (by omega)
          by_cases heq : Sk.gt s.data.toList (p - d + k) = Sk.gt s.data.toList (p + k)
          · have hb : (((Sk.gt s.data.toList (p + k)).toNat : Int) == ((Sk.gt s.data.toList (p - d + k)).toNat : Int)) = true := by simp [heq]
            have HJ2 : Hid (Sk.sameN s.data.toList (p - d) p (m - (k + 1)) (k + 1) = g) := by
              have := HJ.out
              rw [show m - k = (m - (k + 1)) + 1 by omega, Sk.sameN, if_pos heq] at this
              exact this
            clear heq HJ
            go_wp2_with fail
            go_quiet (fail)
            go_wp2
            go_roundw
            case rel => exact ⟨k + 1, _, by omega, by go_num, HJ2.out, rfl⟩
            case measure => simp [intOf]; omega
          · have hb : (((Sk.gt s.data.toList (p + k)).toNat : Int) == ((Sk.gt s.data.toList (p - d + k)).toNat : Int)) = false := by
              rw [beq_eq_false_iff_ne]
              intro h
              exact heq (UInt8.toNat_inj.1 (by omega))
            have HJ2 : k = g := by
              have := HJ.out
              rw [show m - k = (m - (k + 1)) + 1 by omega, Sk.sameN, if_neg heq] at this
              exact this
            subst HJ2
            clear heq HJ HG
            by_cases hnk : n < k
            all_goals
              go_wp2_with fail
              go_quiet (fail)
              go_wp2
              go_roundw
              case rel => first | exact ⟨d + 1, k, d, _, by omega, by omega, by omega, by omega, by go_num, by go_num, by go_num, HI1.out hnk, rfl⟩ | exact ⟨d + 1, n, far, _, by omega, by omega, by omega, by omega, by go_num, by go_num, by go_num, HI2.out hnk, rfl⟩
              case measure => simp [intOf]; omega
        · have HJ2 : k = g := by
            have := HJ.out
            rw [show m - k = 0 by omega, Sk.sameN] at this
            exact this
          subst HJ2
          clear HJ HG
          have hend : decide ((p : Int) + k < t) = false ∨ ((p : Int) + k < t ∧ decide ((k : Int) < 131) = false) := by
            simp only [decide_eq_false_iff_not]
            have := m3.out; omega
          rcases hend with hend | ⟨he1, he2⟩
          all_goals
            by_cases hnk : n < k
            all_goals
              go_wp2_with fail
              go_quiet (fail)
              go_wp2
              go_roundw
              case rel => first | exact ⟨d + 1, k, d, _, by omega, by omega, by omega, by omega, by go_num, by go_num, by go_num, HI1.out hnk, rfl⟩ | exact ⟨d + 1, n, far, _, by omega, by omega, by omega, by omega, by go_num, by go_num, by go_num, HI2.out hnk, rfl⟩
              case measure => simp [intOf]; omega
    · have HI2 : Hid ((n, far) = Sk.bestN s.data.toList p m f 1 0 0) := by
        have := HI.out
        rw [show f + 1 - d = 0 by omega, Sk.bestN] at this
        exact this
      clear HI
      have hend : (65535 : Int) < d ∨ ((d : Int) ≤ 65535 ∧ (p : Int) - d < r) := by have := f3.out; omega
      rcases hend with hend | ⟨he1, he2⟩
      all_goals
        go_wp2
        go_ret2
        exact ⟨ret_best HI2.out, _, rfl⟩

theorem refMatch_at (s : ByteArray) (R P T : Int) (r p t : Nat) (w : World) (hR : R = r) (hP : P = p) (hT : T = t) (hs : s.size ≤ 1000000) (hr : r ≤ p) (hp : p ≤ t) (ht : t ≤ s.size) :
    Calls Tryz.prog 60 #[.string s, .int .i64 R, .int .i64 P, .int .i64 T] w fun e w' =>
      e = .returned (.tuple #[.int .i64 (Sk.bestN s.data.toList p (min (t - p) 131) (min (p - r) 65535) 1 0 0).1, .int .i64 (Sk.bestN s.data.toList p (min (t - p) 131) (min (p - r) 65535) 1 0 0).2]) ∧ ∃ q, w' = w.drewN q := by
  subst hR hP hT
  exact refMatch_any s r p t w hs hr hp ht
end Go.Proofs.YtafkpmjifgohcaaGreatDoor

namespace Go.Proofs.YtafkpmjifgohcaaGreatDoor
open Go.RowKit

set_option maxHeartbeats 400000 in
theorem refSum_any (s : ByteArray) (w : World) (hs : s.size ≤ 1000000) :
    Calls Tryz.prog 37 #[.string s] w fun e w' => e = .returned (.int .i64 (Sk.sumOf s.data.toList)) ∧ w' = w := by
  go_enter Tryz.func37, Tryz.ntmps37
  go_wp2
  go_loop [3, 4, 5] (fun a b i => ∃ k x y : Nat, k ≤ s.size ∧ i = .int .i64 k ∧ a = .int .i64 x ∧ b = .int .i64 y ∧ x < 65521 ∧ y < 65521 ∧ Sk.sumN (s.data.toList.drop k) x y = Sk.sumN s.data.toList 1 0) (fun _ _ i => s.size - (intOf i).toNat)
  case atStart => exact ⟨0, 1, 0, by omega, rfl, rfl, rfl, by omega, by omega, rfl⟩
  case round =>
    obtain ⟨k, x, y, hk, rfl, rfl, rfl, hx, hy, hinv⟩ := hrel
    have HI : Hid (Sk.sumN (s.data.toList.drop k) x y = Sk.sumN s.data.toList 1 0) := hinv
    clear hinv
    by_cases hlt : k < s.size
    · have h1 := str_idx s k k rfl hlt
      have hb := UInt8.toNat_lt (Sk.gt s.data.toList k)
      have HI2 : Hid (Sk.sumN (s.data.toList.drop (k + 1)) ((x + (Sk.gt s.data.toList k).toNat) % 65521) ((y + (x + (Sk.gt s.data.toList k).toNat) % 65521) % 65521) = Sk.sumN s.data.toList 1 0) := by
        have := HI.out
        rw [Sk.drop_gt _ _ (by simpa using hlt), Sk.sumN] at this
        exact this
      clear HI
      generalize (Sk.gt s.data.toList k).toNat = c at *
      go_wp2
      go_round
      case rel => exact ⟨k + 1, _, _, by omega, by go_num, by go_num, by go_num, Nat.mod_lt _ (by decide), Nat.mod_lt _ (by decide), HI2.out⟩
      case measure => simp [intOf]; omega
    · have HI2 : Hid ((x, y) = Sk.sumN s.data.toList 1 0) := by
        have := HI.out
        rw [List.drop_of_length_le (by simp; omega), Sk.sumN] at this
        exact this
      go_wp2
      go_ret
      exact ⟨ret_int (by unfold Sk.sumOf; rw [← HI2.out]; omega), rfl⟩
end Go.Proofs.YtafkpmjifgohcaaGreatDoor

namespace Go.Proofs.YtafkpmjifgohcaaGreatDoor
open Go.RowKit

set_option maxHeartbeats 400000 in
theorem longest_any (s : ByteArray) (r p t : Nat) (w : World) (hs : s.size ≤ 1000000) (hr : r ≤ p) (hp : p ≤ t) (ht : t ≤ s.size) :
    Calls Tryz.prog 71 #[.string s, .int .i64 r, .int .i64 p, .int .i64 t] w fun e w' =>
      e = .returned (.tuple #[.int .i64 (Sk.bestN s.data.toList p (min (t - p) 131) (min (p - r) 65535) 1 0 0).2, .int .i64 (Sk.bestN s.data.toList p (min (t - p) 131) (min (p - r) 65535) 1 0 0).1]) ∧ ∃ q, w' = w.drewN q := by
  obtain ⟨m, hm⟩ : ∃ m, m = min (t - p) 131 := ⟨_, rfl⟩
  obtain ⟨f, hf⟩ : ∃ f, f = min (p - r) 65535 := ⟨_, rfl⟩
  have m1 : p + m ≤ t := by omega
  have m2 : m ≤ 131 := by omega
  have m3 : Hid (m = t - p ∨ m = 131) := by show _ ∨ _; omega
  have f1 : r + f ≤ p := by omega
  have f2 : f ≤ 65535 := by omega
  have f3 : Hid (f = p - r ∨ f = 65535) := by show _ ∨ _; omega
  have f4 : Hid (f = p - r ∨ p - r > 65535) := by show _ ∨ _; omega
  rw [← hm, ← hf]
  clear hm hf
  go_enter Tryz.func71, Tryz.ntmps71
  go_wp2
  all_goals
    first
      | rw [show (131 : Int) = (m : Int) from by have := m3.out; omega]
      | rw [show ((t : Int) - (p : Int)) = (m : Int) from by have := m3.out; omega]
    first
      | rw [show (65535 : Int) = (f : Int) from by have := f3.out; omega]
      | rw [show ((p : Int) - (r : Int)) = (f : Int) from by have := f3.out; omega]
    go_loopw [8, 9, 12] (fun b c i wr => ∃ d n far q : Nat, 1 ≤ d ∧ d ≤ f + 1 ∧ n ≤ m ∧ far < d ∧ i = .int .i64 d ∧ c = .int .i64 n ∧ b = .int .i64 far ∧ Sk.bestN s.data.toList p m (f + 1 - d) d n far = Sk.bestN s.data.toList p m f 1 0 0 ∧ wr = w.drewN q) (fun _ _ i _ => f + 1 - (intOf i).toNat)
    case atStart => exact ⟨1, 0, 0, 0, by omega, by omega, by omega, by omega, rfl, rfl, rfl, by rw [Nat.add_sub_cancel], rfl⟩
    case round =>
      obtain ⟨d, n, far, q, hd1, hd2, hn, hfar, rfl, rfl, rfl, hinv, rfl⟩ := hrel
      have HI : Hid (Sk.bestN s.data.toList p m (f + 1 - d) d n far = Sk.bestN s.data.toList p m f 1 0 0) := hinv
      clear hinv
      by_cases hlt : d ≤ f
      · by_cases hnm : n < m
        · have hle := (Sk.sameN_le s.data.toList (p - d) p m 0).2
          have HI1 : Hid (n < Sk.sameN s.data.toList (p - d) p m 0 → Sk.bestN s.data.toList p m (f + 1 - (d + 1)) (d + 1) (Sk.sameN s.data.toList (p - d) p m 0) d = Sk.bestN s.data.toList p m f 1 0 0) := fun h => by
            have := HI.out
            rw [show f + 1 - d = (f + 1 - (d + 1)) + 1 by omega, Sk.bestN, if_pos h] at this
            exact this
          have HI2 : Hid (¬ n < Sk.sameN s.data.toList (p - d) p m 0 → Sk.bestN s.data.toList p m (f + 1 - (d + 1)) (d + 1) n far = Sk.bestN s.data.toList p m f 1 0 0) := fun h => by
            have := HI.out
            rw [show f + 1 - d = (f + 1 - (d + 1)) + 1 by omega, Sk.bestN, if_neg h] at this
            exact this
          clear HI
          generalize hg : Sk.sameN s.data.toList (p - d) p m 0 = g at *
          have HG : Hid (Sk.sameN s.data.toList (p - d) p m 0 = g) := hg
          clear hg
          go_wp2_with (go_at_call 79; refine (same_at s _ _ _ (p - d) p m _ (by omega) rfl rfl hs (by omega) (by omega)).mono ?_; rw [HG.out]; rintro e w' ⟨rfl, q', rfl⟩)
          · have hgt : n < g := by assumption
            go_roundw
            case rel => exact ⟨d + 1, g, d, _, by omega, by omega, by omega, by omega, by go_num, by go_num, by go_num, HI1.out hgt, rfl⟩
            case measure => simp [intOf]; omega
          · have hgt : ¬ n < g := by assumption
            go_roundw
            case rel => exact ⟨d + 1, n, far, _, by omega, by omega, by omega, by omega, by go_num, by go_num, by go_num, HI2.out hgt, rfl⟩
            case measure => simp [intOf]; omega
        · have HI2 : Hid ((n, far) = Sk.bestN s.data.toList p m f 1 0 0) := by
            have := HI.out
            rw [Sk.bestN_full _ _ _ _ _ _ _ (by omega)] at this
            exact this
          clear HI
          go_wp2
          go_ret2
          exact ⟨ret_back HI2.out, _, rfl⟩
      · have HI2 : Hid ((n, far) = Sk.bestN s.data.toList p m f 1 0 0) := by
          have := HI.out
          rw [show f + 1 - d = 0 by omega, Sk.bestN] at this
          exact this
        clear HI
        go_wp2
        go_ret2
        exact ⟨ret_back HI2.out, _, rfl⟩

theorem longest_at (s : ByteArray) (R P T : Int) (r p t : Nat) (w : World) (hR : R = r) (hP : P = p) (hT : T = t) (hs : s.size ≤ 1000000) (hr : r ≤ p) (hp : p ≤ t) (ht : t ≤ s.size) :
    Calls Tryz.prog 71 #[.string s, .int .i64 R, .int .i64 P, .int .i64 T] w fun e w' =>
      e = .returned (.tuple #[.int .i64 (Sk.bestN s.data.toList p (min (t - p) 131) (min (p - r) 65535) 1 0 0).2, .int .i64 (Sk.bestN s.data.toList p (min (t - p) 131) (min (p - r) 65535) 1 0 0).1]) ∧ ∃ q, w' = w.drewN q := by
  subst hR hP hT
  exact longest_any s r p t w hs hr hp ht
end Go.Proofs.YtafkpmjifgohcaaGreatDoor

namespace Go.Proofs.YtafkpmjifgohcaaGreatDoor
open Go.RowKit

theorem fits_of_wf {n : Int} (h : (Lit.int .i64 n).wf = true) : Fits n := by
  have e1 : IntKind.i64.min = -9223372036854775808 := rfl
  have e2 : IntKind.i64.max = 9223372036854775807 := rfl
  simp [Lit.wf, e1, e2] at h
  exact h

end Go.Proofs.YtafkpmjifgohcaaGreatDoor
