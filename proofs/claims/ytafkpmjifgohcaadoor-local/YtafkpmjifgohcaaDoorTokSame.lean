/- tokens.same counts the bytes that are the same from two places on. -/
import Derived.Test.YtafkpmjifgohcaaDoorRows
import Derived.Test.YtafkpmjifgohcaaDoorPure
import Derived.WalkKit
import Derived.WalkSpells
import Derived.WalkLawsBesides
import Derived.Deep.QuietTactic
import Derived.BigQuiet
namespace Go.Proofs.YtafkpmjifgohcaaDoor
open Go.RowKit

theorem ret_nat {k : IntKind} {a b : Nat} (h : a = b) : Ending.returned (.int k (a : Int)) = .returned (.int k (b : Int)) := by rw [h]
theorem ret_int {k : IntKind} {a b : Int} (h : a = b) : Ending.returned (.int k a) = .returned (.int k b) := by rw [h]
theorem ret_back {n far : Nat} {z : Nat × Nat} (h : (n, far) = z) : Ending.returned (.tuple #[.int .i64 (far : Int), .int .i64 (n : Int)]) = .returned (.tuple #[.int .i64 (z.2 : Int), .int .i64 (z.1 : Int)]) := by rw [← h]
theorem ret_best {n far : Nat} {z : Nat × Nat} (h : (n, far) = z) : Ending.returned (.tuple #[.int .i64 (n : Int), .int .i64 (far : Int)]) = .returned (.tuple #[.int .i64 (z.1 : Int), .int .i64 (z.2 : Int)]) := by rw [← h]
theorem ret_str {a b : List UInt8} (h : a = b) : Ending.returned (.string ⟨a.toArray⟩) = .returned (.string ⟨b.toArray⟩) := by rw [h]
theorem val_str {a b : List UInt8} (h : a = b) : Value.string ⟨a.toArray⟩ = .string ⟨b.toArray⟩ := by rw [h]
theorem cat_str (a b : List UInt8) : ((⟨a.toArray⟩ : ByteArray) ++ (⟨b.toArray⟩ : ByteArray)) = ⟨(a ++ b).toArray⟩ := by
  apply ByteArray.ext
  simp

/-- The byte at a place of a string, by the list of its bytes. -/
theorem str_idx (s : ByteArray) (j : Nat) (i : Int) (hi : i = j) (hj : j < s.size) : ∀ w, (Instr.index 9 (.string s) (.int .i64 i)).run Tryd.prog w = .ok (.int .u8 (Sk.gt s.data.toList j).toNat) w := by
  intro w
  subst hi
  rw [run_index_string w 9 s .i64 j Tryd.underlying9, dif_pos ⟨by omega, by omega⟩]
  have : (s[(j : Int).toNat]'(by omega)) = Sk.gt s.data.toList j := by
    have hj' : j < s.data.toList.length := by simpa using hj
    unfold Sk.gt
    rw [List.getD_eq_getElem?_getD, List.getElem?_eq_getElem hj']
    rfl
  rw [this]

set_option maxHeartbeats 400000 in
theorem same_any (s : ByteArray) (e p most : Nat) (w : World) (hs : s.size ≤ 1000000) (he : e + most ≤ s.size) (hp : p + most ≤ s.size) :
    Calls Tryd.prog 90 #[.string s, .int .i64 e, .int .i64 p, .int .i64 most] w fun r w' => r = .returned (.int .i64 (Sk.sameN s.data.toList e p most 0)) ∧ ∃ q, w' = w.drewN q := by
  go_enter Tryd.func90, Tryd.ntmps90
  go_wp2
  go_loopw [9] (fun i wr => ∃ n q : Nat, n ≤ most ∧ i = .int .i64 n ∧ Sk.sameN s.data.toList e p (most - n) n = Sk.sameN s.data.toList e p most 0 ∧ wr = w.drewN q) (fun i _ => most - (intOf i).toNat)
  case atStart => exact ⟨0, 0, by omega, rfl, rfl, rfl⟩
  case round =>
    obtain ⟨n, q, hn, rfl, hinv, rfl⟩ := hrel
    have HI : Hid (Sk.sameN s.data.toList e p (most - n) n = Sk.sameN s.data.toList e p most 0) := hinv
    clear hinv
    by_cases hlt : n < most
    · have h1 : (n : Int) < most := by omega
      have h2 := str_idx s (e + n) ((e : Int) + n) (by omega) (by omega)
      have h3 := str_idx s (p + n) ((p : Int) + n) (by omega) (by omega)
      by_cases heq : Sk.gt s.data.toList (e + n) = Sk.gt s.data.toList (p + n)
      · have hb : (((Sk.gt s.data.toList (e + n)).toNat : Int) == ((Sk.gt s.data.toList (p + n)).toNat : Int)) = true := by simp [heq]
        have HI2 : Hid (Sk.sameN s.data.toList e p (most - (n + 1)) (n + 1) = Sk.sameN s.data.toList e p most 0) := by
          have := HI.out
          rw [show most - n = (most - (n + 1)) + 1 by omega, Sk.sameN, if_pos heq] at this
          exact this
        clear heq HI
        go_wp2_with fail
        go_quiet (fail)
        go_wp2
        go_roundw
        case rel => exact ⟨n + 1, _, by omega, by go_num, HI2.out, rfl⟩
        case measure => simp [intOf]; omega
      · have hb : (((Sk.gt s.data.toList (e + n)).toNat : Int) == ((Sk.gt s.data.toList (p + n)).toNat : Int)) = false := by
          rw [beq_eq_false_iff_ne]
          intro h
          exact heq (UInt8.toNat_inj.1 (by omega))
        have HI2 : Hid (n = Sk.sameN s.data.toList e p most 0) := by
          have := HI.out
          rw [show most - n = (most - (n + 1)) + 1 by omega, Sk.sameN, if_neg heq] at this
          exact this
        clear heq HI
        go_wp2_with fail
        go_quiet (fail)
        go_wp2
        go_ret
        exact ⟨ret_nat HI2.out, _, by rw [World.drewN_drewN]⟩
    · have hd : decide ((n : Int) < most) = false := by simp; omega
      have HI2 : Hid (n = Sk.sameN s.data.toList e p most 0) := by
        have := HI.out
        rw [show most - n = 0 by omega, Sk.sameN] at this
        exact this
      clear HI
      go_wp2_with fail
      go_quiet (fail)
      go_wp2
      go_ret
      exact ⟨ret_nat HI2.out, _, by rw [World.drewN_drewN]⟩

theorem same_at (s : ByteArray) (E P M : Int) (e p most : Nat) (w : World) (hE : E = e) (hP : P = p) (hM : M = most) (hs : s.size ≤ 1000000) (he : e + most ≤ s.size) (hp : p + most ≤ s.size) :
    Calls Tryd.prog 90 #[.string s, .int .i64 E, .int .i64 P, .int .i64 M] w fun r w' => r = .returned (.int .i64 (Sk.sameN s.data.toList e p most 0)) ∧ ∃ q, w' = w.drewN q := by
  subst hE hP hM
  exact same_any s e p most w hs he hp
end Go.Proofs.YtafkpmjifgohcaaDoor
