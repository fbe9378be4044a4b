/- The document's search over all distances. -/
import Derived.Test.YtjahkaggaijpjaaDoorTokSame
namespace Go.Proofs.YtjahkaggaijpjaaDoor
open Go.RowKit

set_option maxHeartbeats 800000 in
theorem refMatch_any (s : ByteArray) (r p t : Nat) (w : World) (hs : s.size ≤ 1000000) (hr : r ≤ p) (hp : p ≤ t) (ht : t ≤ s.size) :
    Calls Tryd.prog 97 #[.string s, .int .i64 r, .int .i64 p, .int .i64 t] w fun e w' =>
      e = .returned (.tuple #[.int .i64 (Sk.bestN s.data.toList p (min (t - p) 131) (min (p - r) 65535) 1 0 0).1, .int .i64 (Sk.bestN s.data.toList p (min (t - p) 131) (min (p - r) 65535) 1 0 0).2]) ∧ ∃ q, w' = w.drewN q := by
  obtain ⟨m, hm⟩ : ∃ m, m = min (t - p) 131 := ⟨_, rfl⟩
  obtain ⟨f, hf⟩ : ∃ f, f = min (p - r) 65535 := ⟨_, rfl⟩
  have m1 : p + m ≤ t := by omega
  have m2 : m ≤ 131 := by omega
  have m3 : Hid (m = t - p ∨ m = 131) := by show _ ∨ _; omega
  have f1 : r + f ≤ p := by omega
  have f2 : f ≤ 65535 := by omega
  have f3 : Hid (f = p - r ∨ f = 65535) := by show _ ∨ _; omega
  rw [← hm, ← hf]
  clear hm hf
  go_enter Tryd.func97, Tryd.ntmps97
  go_wp2
  go_loopw [10, 11, 12] (fun c b i wr => ∃ d n far q : Nat, 1 ≤ d ∧ d ≤ f + 1 ∧ n ≤ m ∧ far < d ∧ i = .int .i64 d ∧ c = .int .i64 n ∧ b = .int .i64 far ∧ Sk.bestN s.data.toList p m (f + 1 - d) d n far = Sk.bestN s.data.toList p m f 1 0 0 ∧ wr = w.drewN q) (fun _ _ i _ => f + 1 - (intOf i).toNat)
  case atStart => exact ⟨1, 0, 0, 0, by omega, by omega, by omega, by omega, rfl, rfl, rfl, by rw [Nat.add_sub_cancel], rfl⟩
  case round =>
    obtain ⟨d, n, far, q, hd1, hd2, hn, hfar, rfl, rfl, rfl, hinv, rfl⟩ := hrel
    have HI : Hid (Sk.bestN s.data.toList p m (f + 1 - d) d n far = Sk.bestN s.data.toList p m f 1 0 0) := hinv
    clear hinv
    by_cases hlt : d ≤ f
    · have hle := (Sk.sameN_le s.data.toList (p - d) p m 0).2
      have HI1 : Hid (n < Sk.sameN s.data.toList (p - d) p m 0 → Sk.bestN s.data.toList p m (f + 1 - (d + 1)) (d + 1) (Sk.sameN s.data.toList (p - d) p m 0) d = Sk.bestN s.data.toList p m f 1 0 0) := fun h => by
        have := HI.out
        rw [show f + 1 - d = (f + 1 - (d + 1)) + 1 by omega, Sk.bestN, if_pos h] at this
        exact this
      have HI2 : Hid (¬ n < Sk.sameN s.data.toList (p - d) p m 0 → Sk.bestN s.data.toList p m (f + 1 - (d + 1)) (d + 1) n far = Sk.bestN s.data.toList p m f 1 0 0) := fun h => by
        have := HI.out
        rw [show f + 1 - d = (f + 1 - (d + 1)) + 1 by omega, Sk.bestN, if_neg h] at this
        exact this
      clear HI
      have h1 : (d : Int) ≤ 65535 := by omega
      have h2 : (r : Int) ≤ (p : Int) - d := by omega
      generalize hg : Sk.sameN s.data.toList (p - d) p m 0 = g at *
      have HG : Hid (Sk.sameN s.data.toList (p - d) p m 0 = g) := hg
      clear hg
      go_wp2
      go_loopw [13] (fun i wr => ∃ k q : Nat, k ≤ m ∧ i = .int .i64 k ∧ Sk.sameN s.data.toList (p - d) p (m - k) k = g ∧ wr = w.drewN q) (fun i _ => m - (intOf i).toNat)
      case atStart => exact ⟨0, q, by omega, rfl, HG.out, rfl⟩
      case round =>
        obtain ⟨k, q1, hk, rfl, hinv, rfl⟩ := hrel
        have HJ : Hid (Sk.sameN s.data.toList (p - d) p (m - k) k = g) := hinv
        clear hinv
        by_cases hkm : k < m
        · have a1 : (p : Int) + k < t := by omega
          have a2 : (k : Int) < 131 := by omega
          have a3 := str_idx s (p + k) ((p : Int) + k) (by omega) (by omega)
          have a4 := str_idx s (p - d + k) ((p : Int) + k - d) (by omega) (by omega)
          by_cases heq : Sk.gt s.data.toList (p - d + k) = Sk.gt s.data.toList (p + k)
          · have hb : (((Sk.gt s.data.toList (p + k)).toNat : Int) == ((Sk.gt s.data.toList (p - d + k)).toNat : Int)) = true := by simp [heq]
            have HJ2 : Hid (Sk.sameN s.data.toList (p - d) p (m - (k + 1)) (k + 1) = g) := by
              have := HJ.out
              rw [show m - k = (m - (k + 1)) + 1 by omega, Sk.sameN, if_pos heq] at this
              exact this
            clear heq HJ
            go_wp2_with fail
            go_quiet (fail)
            go_wp2
            go_roundw
            case rel => exact ⟨k + 1, _, by omega, by go_num, HJ2.out, rfl⟩
            case measure => simp [intOf]; omega
          · have hb : (((Sk.gt s.data.toList (p + k)).toNat : Int) == ((Sk.gt s.data.toList (p - d + k)).toNat : Int)) = false := by
              rw [beq_eq_false_iff_ne]
              intro h
              exact heq (UInt8.toNat_inj.1 (by omega))
            have HJ2 : k = g := by
              have := HJ.out
              rw [show m - k = (m - (k + 1)) + 1 by omega, Sk.sameN, if_neg heq] at this
              exact this
            subst HJ2
            clear heq HJ HG
            by_cases hnk : n < k
            all_goals
              go_wp2_with fail
              go_quiet (fail)
              go_wp2
              go_roundw
              case rel => first | exact ⟨d + 1, k, d, _, by omega, by omega, by omega, by omega, by go_num, by go_num, by go_num, HI1.out hnk, rfl⟩ | exact ⟨d + 1, n, far, _, by omega, by omega, by omega, by omega, by go_num, by go_num, by go_num, HI2.out hnk, rfl⟩
              case measure => simp [intOf]; omega
        · have HJ2 : k = g := by
            have := HJ.out
            rw [show m - k = 0 by omega, Sk.sameN] at this
            exact this
          subst HJ2
          clear HJ HG
          have hend : decide ((p : Int) + k < t) = false ∨ ((p : Int) + k < t ∧ decide ((k : Int) < 131) = false) := by
            simp only [decide_eq_false_iff_not]
            have := m3.out; omega
          rcases hend with hend | ⟨he1, he2⟩
          all_goals
            by_cases hnk : n < k
            all_goals
              go_wp2_with fail
              go_quiet (fail)
              go_wp2
              go_roundw
              case rel => first | exact ⟨d + 1, k, d, _, by omega, by omega, by omega, by omega, by go_num, by go_num, by go_num, HI1.out hnk, rfl⟩ | exact ⟨d + 1, n, far, _, by omega, by omega, by omega, by omega, by go_num, by go_num, by go_num, HI2.out hnk, rfl⟩
              case measure => simp [intOf]; omega
    · have HI2 : Hid ((n, far) = Sk.bestN s.data.toList p m f 1 0 0) := by
        have := HI.out
        rw [show f + 1 - d = 0 by omega, Sk.bestN] at this
        exact this
      clear HI
      have hend : (65535 : Int) < d ∨ ((d : Int) ≤ 65535 ∧ (p : Int) - d < r) := by have := f3.out; omega
      rcases hend with hend | ⟨he1, he2⟩
      all_goals
        go_wp2
        go_ret2
        exact ⟨ret_best HI2.out, _, rfl⟩

theorem refMatch_at (s : ByteArray) (R P T : Int) (r p t : Nat) (w : World) (hR : R = r) (hP : P = p) (hT : T = t) (hs : s.size ≤ 1000000) (hr : r ≤ p) (hp : p ≤ t) (ht : t ≤ s.size) :
    Calls Tryd.prog 97 #[.string s, .int .i64 R, .int .i64 P, .int .i64 T] w fun e w' =>
      e = .returned (.tuple #[.int .i64 (Sk.bestN s.data.toList p (min (t - p) 131) (min (p - r) 65535) 1 0 0).1, .int .i64 (Sk.bestN s.data.toList p (min (t - p) 131) (min (p - r) 65535) 1 0 0).2]) ∧ ∃ q, w' = w.drewN q := by
  subst hR hP hT
  exact refMatch_any s r p t w hs hr hp ht
end Go.Proofs.YtjahkaggaijpjaaDoor
