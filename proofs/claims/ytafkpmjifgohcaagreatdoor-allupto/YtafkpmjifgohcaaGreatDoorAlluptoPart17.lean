/- The document's packing of a block. -/
import Derived.Test.YtafkpmjifgohcaaGreatDoorAlluptoPart1
import Derived.Test.YtafkpmjifgohcaaGreatDoorAlluptoPart9
import Derived.Test.YtafkpmjifgohcaaGreatDoorAlluptoPart16
namespace Go.Proofs.YtafkpmjifgohcaaGreatDoor
open Go.RowKit

theorem sizeOfList (l : List UInt8) : (⟨l.toArray⟩ : ByteArray).size = l.length := by simp [ByteArray.size]

theorem flush_str (out run : List UInt8) (h : run ≠ []) (h2 : run.length ≤ 128) :
    ((⟨out.toArray⟩ : ByteArray) ++ (⟨(Sk.le (run.length - 1) 1).toArray⟩ : ByteArray) ++ (⟨run.toArray⟩ : ByteArray)) = ⟨(out ++ Sk.flush run).toArray⟩ := by
  rw [cat_str, cat_str, Sk.flush, if_neg h, Sk.le, Sk.le]
  rw [show (run.length - 1) % 256 = run.length - 1 by omega, List.append_assoc]
  rfl
theorem copy_str (out : List UInt8) (d n : Nat) (h : 4 ≤ n) (h2 : n ≤ 131) :
    ((⟨out.toArray⟩ : ByteArray) ++ (⟨(Sk.le (128 + n - 4) 1).toArray⟩ : ByteArray) ++ (⟨(Sk.le d 2).toArray⟩ : ByteArray)) = ⟨(out ++ Sk.copyOf d n).toArray⟩ := by
  rw [cat_str, cat_str, Sk.copyOf, Sk.le, Sk.le]
  rw [show (128 + n - 4) % 256 = 128 + n - 4 by omega, List.append_assoc]
  rfl
theorem ext_one (s : ByteArray) (p : Nat) (h : p < s.size) : s.extract p (p + 1) = ⟨[Sk.gt s.data.toList p].toArray⟩ := by
  apply ByteArray.ext
  apply Array.ext'
  rw [ByteArray.data_extract, Array.toList_extract, List.extract_eq_take_drop, Sk.drop_gt _ _ (by simpa using h)]
  simp

set_option maxHeartbeats 1000000 in
theorem refPacked_any (s : ByteArray) (r p t : Nat) (w : World) (hs : s.size ≤ 20000) (hr : r ≤ p) (hp : p ≤ t) (ht : t ≤ s.size) :
    Calls Tryz.prog 36 #[.string s, .int .i64 r, .int .i64 p, .int .i64 t] w fun e w' => e = .returned (.string ⟨(Sk.packR s.data.toList r p t).toArray⟩) ∧ Below w.heap.size w w' := by
  have hlen : s.data.toList.length = s.size := Array.length_toList
  have HL : Hid (s.data.toList.length = s.size) := hlen
  clear hlen
  go_enter Tryz.func36, Tryz.ntmps36
  go_wp2
  go_loopw [2, 9, 10] (fun a o u wr => ∃ k pl : Nat, ∃ out run : List UInt8, p ≤ pl ∧ pl ≤ t ∧ t ≤ pl + k ∧ a = .int .i64 pl ∧ o = .string ⟨out.toArray⟩ ∧ u = .string ⟨run.toArray⟩ ∧ run.length ≤ 128 ∧ out.length + run.length + min run.length 1 ≤ 2 * (pl - p) ∧ Sk.packRN s.data.toList r t k pl out run = Sk.packR s.data.toList r p t ∧ Below w.heap.size w wr) (fun a _ _ _ => t - (intOf a).toNat)
  case atStart => exact ⟨t - p, p, [], [], by omega, by omega, by omega, rfl, rfl, rfl, by decide, by simp, rfl, Below.refl _ _⟩
  case round =>
    obtain ⟨k, pl, out, run, h1, h2, h3, rfl, rfl, rfl, hr128, hol, hinv, hbel⟩ := hrel
    have HI : Hid (Sk.packRN s.data.toList r t k pl out run = Sk.packR s.data.toList r p t) := hinv
    have HW : Hid (Below w.heap.size w wr) := hbel
    clear hinv hbel
    by_cases hlt : pl < t
    · obtain ⟨k, rfl⟩ : ∃ j, k = j + 1 := ⟨k - 1, by omega⟩
      have hbl := Sk.best_le s.data.toList r pl t (by omega)
      obtain ⟨z, hz⟩ : ∃ z, z = Sk.best s.data.toList r pl t := ⟨_, rfl⟩
      obtain ⟨n, d⟩ := z
      rw [← hz] at hbl
      have HZ : Hid (Sk.best s.data.toList r pl t = (n, d)) := hz.symm
      clear hz
      simp only at hbl
      obtain ⟨b1, b2, b3⟩ := hbl
      have hle : ∀ n k, (Sk.le n k).length = k := fun n k => Sk.le_length k n
      by_cases hn : 4 ≤ n
      · have HI2 : Hid (Sk.packRN s.data.toList r t k (pl + n) (out ++ Sk.flush run ++ Sk.copyOf d n) [] = Sk.packR s.data.toList r p t) := by
          have := HI.out
          rw [Sk.packRN, if_pos hlt, HZ.out, if_pos hn] at this
          exact this
        clear HI
        by_cases he : run = []
        · subst he
          go_wp2_with fail
          refine (refMatch_at s _ _ _ r pl t wr rfl rfl rfl (by omega) (by omega) (by omega) ht).mono ?_
          rw [show Sk.bestN s.data.toList pl (min (t - pl) 131) (min (pl - r) 65535) 1 0 0 = (n, d) from HZ.out]
          rintro e w1 ⟨rfl, q, rfl⟩
          go_wp2_with fail
          refine (refBytes_at _ _ (128 + n - 4) 1 _ (by omega) rfl (by omega) (by decide)).mono ?_
          rintro e w2 ⟨rfl, hb2⟩
          have HB2 : Hid (Below w.heap.size w w2) := (below_drewN HW.out q).trans (hb2.mono HW.out.size)
          clear hb2
          have hol2 : out.length ≤ 40000 := by omega
          go_wp2_with fail
          refine (refBytes_at _ _ d 2 _ (by omega) rfl (by omega) (by decide)).mono ?_
          rintro e w3 ⟨rfl, hb3⟩
          have HB3 : Hid (Below w.heap.size w w3) := HB2.out.trans (hb3.mono HB2.out.size)
          clear hb3
          go_wp2
          go_roundw
          case rel =>
            refine ⟨k, pl + n, out ++ Sk.copyOf d n, [], by omega, by omega, by omega, by go_num, congrArg Value.string (copy_str out d n hn b2), rfl, by decide, ?_, by have := HI2.out; simpa [Sk.flush] using this, HB3.out⟩
            rw [List.length_append, show (Sk.copyOf d n).length = 3 by simp [Sk.copyOf, Sk.le]]
            simp at hol
            simp
            omega
          case measure => simp [intOf]; omega
        · have hne : run.isEmpty = false := by simpa using he
          have hrl : 0 < run.length := List.length_pos_iff.2 he
          have hol2 : out.length ≤ 40000 := by omega
          go_wp2_with fail
          refine (refMatch_at s _ _ _ r pl t wr rfl rfl rfl (by omega) (by omega) (by omega) ht).mono ?_
          rw [show Sk.bestN s.data.toList pl (min (t - pl) 131) (min (pl - r) 65535) 1 0 0 = (n, d) from HZ.out]
          rintro e w1 ⟨rfl, q, rfl⟩
          go_wp2_with fail
          refine (refBytes_at _ _ (run.length - 1) 1 _ (by omega) rfl (by omega) (by decide)).mono ?_
          rintro e w2 ⟨rfl, hb2⟩
          have HB2 : Hid (Below w.heap.size w w2) := (below_drewN HW.out q).trans (hb2.mono HW.out.size)
          clear hb2
          have hfl := flush_str out run he hr128
          have hfl2 : (out ++ Sk.flush run).length ≤ 2 * (pl - p) := by
            rw [List.length_append, Sk.flush, if_neg he, List.length_cons]
            omega
          have HF : Hid ((out ++ Sk.flush run).length ≤ 2 * (pl - p)) := hfl2
          clear hfl2
          go_wp2_with fail
          generalize ho2 : out ++ Sk.flush run = out2 at *
          have HO2 : Hid (out ++ Sk.flush run = out2) := ho2
          clear ho2 hfl
          have hol3 : out2.length ≤ 40000 := by have := HF.out; omega
          refine (refBytes_at _ _ (128 + n - 4) 1 _ (by omega) rfl (by omega) (by decide)).mono ?_
          rintro e w3 ⟨rfl, hb3⟩
          have HB3 : Hid (Below w.heap.size w w3) := HB2.out.trans (hb3.mono HB2.out.size)
          clear hb3
          go_wp2_with fail
          refine (refBytes_at _ _ d 2 _ (by omega) rfl (by omega) (by decide)).mono ?_
          rintro e w4 ⟨rfl, hb4⟩
          have HB4 : Hid (Below w.heap.size w w4) := HB3.out.trans (hb4.mono HB3.out.size)
          clear hb4
          go_wp2
          go_roundw
          case rel =>
            refine ⟨k, pl + n, out2 ++ Sk.copyOf d n, [], by omega, by omega, by omega, by go_num, congrArg Value.string (copy_str out2 d n hn b2), rfl, by decide, ?_, HI2.out, HB4.out⟩
            rw [List.length_append, show (Sk.copyOf d n).length = 3 by simp [Sk.copyOf, Sk.le]]
            have := HF.out
            simp
            omega
          case measure => simp [intOf]; omega
      · have hx := ext_one s pl (by omega)
        by_cases hr1 : run.length = 128
        · have he : run ≠ [] := fun e => by rw [e] at hr1; cases hr1
          have HI2 : Hid (Sk.packRN s.data.toList r t k (pl + 1) (out ++ Sk.flush run) [Sk.gt s.data.toList pl] = Sk.packR s.data.toList r p t) := by
            have := HI.out
            rw [Sk.packRN, if_pos hlt, HZ.out, if_neg hn, if_pos hr1] at this
            exact this
          clear HI
          have HR1 : Hid (run.length = 128) := hr1
          have hq : ((run.length : Int) == 128) = true := by rw [hr1]; rfl
          clear hr1
          have hne : run.isEmpty = false := by simpa using he
          have hrl : 0 < run.length := List.length_pos_iff.2 he
          have hol2 : out.length ≤ 40000 := by omega
          go_wp2_with fail
          refine (refMatch_at s _ _ _ r pl t wr rfl rfl rfl (by omega) (by omega) (by omega) ht).mono ?_
          rw [show Sk.bestN s.data.toList pl (min (t - pl) 131) (min (pl - r) 65535) 1 0 0 = (n, d) from HZ.out]
          rintro e w1 ⟨rfl, q, rfl⟩
          go_wp2_with fail
          refine (refBytes_at _ _ (run.length - 1) 1 _ (by omega) rfl (by omega) (by decide)).mono ?_
          rintro e w2 ⟨rfl, hb2⟩
          have HB2 : Hid (Below w.heap.size w w2) := (below_drewN HW.out q).trans (hb2.mono HW.out.size)
          clear hb2
          go_wp2
          go_roundw
          case rel =>
            refine ⟨k, pl + 1, out ++ Sk.flush run, [Sk.gt s.data.toList pl], by omega, by omega, by omega, by go_num, congrArg Value.string (flush_str out run he hr128), ?_, by simp, ?_, HI2.out, HB2.out⟩
            · exact congrArg Value.string (cat_str [] [Sk.gt s.data.toList pl])
            · have := HR1.out
              rw [List.length_append, Sk.flush, if_neg he, List.length_cons]
              simp
              omega
          case measure => simp [intOf]; omega
        · have HI2 : Hid (Sk.packRN s.data.toList r t k (pl + 1) out (run ++ [Sk.gt s.data.toList pl]) = Sk.packR s.data.toList r p t) := by
            have := HI.out
            rw [Sk.packRN, if_pos hlt, HZ.out, if_neg hn, if_neg hr1] at this
            exact this
          clear HI
          have hq : ((run.length : Int) == 128) = false := by rw [beq_eq_false_iff_ne]; omega
          have hr2 : run.length < 128 := by omega
          clear hr1
          go_wp2_with fail
          refine (refMatch_at s _ _ _ r pl t wr rfl rfl rfl (by omega) (by omega) (by omega) ht).mono ?_
          rw [show Sk.bestN s.data.toList pl (min (t - pl) 131) (min (pl - r) 65535) 1 0 0 = (n, d) from HZ.out]
          rintro e w1 ⟨rfl, q, rfl⟩
          go_wp2
          go_roundw
          case rel =>
            refine ⟨k, pl + 1, out, run ++ [Sk.gt s.data.toList pl], by omega, by omega, by omega, by go_num, rfl, ?_, by simp; omega, ?_, HI2.out, below_drewN HW.out q⟩
            · exact congrArg Value.string (cat_str run [Sk.gt s.data.toList pl])
            · simp
              omega
          case measure => simp [intOf]; omega
    · have HI2 : Hid (out ++ Sk.flush run = Sk.packR s.data.toList r p t) := by
        have := HI.out
        rw [Sk.packRN_end _ _ _ _ _ _ _ hlt] at this
        exact this
      clear HI
      by_cases he : run = []
      · subst he
        go_wp2
        go_ret
        exact ⟨ret_str (by have := HI2.out; simpa [Sk.flush] using this), HW.out⟩
      · have hne : run.isEmpty = false := by simpa using he
        have hrl : 0 < run.length := List.length_pos_iff.2 he
        have hle : ∀ n k, (Sk.le n k).length = k := fun n k => Sk.le_length k n
        go_wp2_with fail
        refine (refBytes_at _ _ (run.length - 1) 1 wr (by omega) rfl (by omega) (by decide)).mono ?_
        rintro e w1 ⟨rfl, hb1⟩
        have HB1 : Hid (Below wr.heap.size wr w1) := hb1
        clear hb1
        go_wp2
        go_ret
        refine ⟨?_, HW.out.trans (HB1.out.mono HW.out.size)⟩
        have e1 := flush_str out run he hr128
        rw [HI2.out] at e1
        exact congrArg (fun x => Ending.returned (.string x)) e1

theorem refPacked_at (s : ByteArray) (R P T : Int) (r p t : Nat) (w : World) (hR : R = r) (hP : P = p) (hT : T = t) (hs : s.size ≤ 20000) (hr : r ≤ p) (hp : p ≤ t) (ht : t ≤ s.size) :
    Calls Tryz.prog 36 #[.string s, .int .i64 R, .int .i64 P, .int .i64 T] w fun e w' => e = .returned (.string ⟨(Sk.packR s.data.toList r p t).toArray⟩) ∧ Below w.heap.size w w' := by
  subst hR hP hT
  exact refPacked_any s r p t w hs hr hp ht
end Go.Proofs.YtafkpmjifgohcaaGreatDoor
