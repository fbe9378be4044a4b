/- tokens.Pack packs a block as the plain function says. -/
import Derived.Test.YtafkpmjifgohcaaDoorTokRuns
import Derived.Test.YtafkpmjifgohcaaDoorLocalPart1
import Derived.Test.YtafkpmjifgohcaaDoorPure2
namespace Go.Proofs.YtafkpmjifgohcaaDoor
open Go.RowKit

theorem Bts.drewN {w : World} {v : Value} {L : List UInt8} (h : Bts w v L) (q : Nat) : Bts (w.drewN q) v L := h
theorem Gr.drewN {w w' : World} {v v' : Value} (h : Gr w v w' v') (q : Nat) : Gr w v (w'.drewN q) v' := ⟨h.os, h.tape, h.output, h.size, h.block, h.own⟩

theorem ext_sub (t : ByteArray) (a b : Nat) : (t.extract a b).data.toList = Sk.sub t.data.toList a b := by
  rw [ByteArray.data_extract, Array.toList_extract, List.extract_eq_take_drop]
  rfl

set_option maxHeartbeats 800000 in
theorem tokPack_any (s : ByteArray) (r p t : Nat) (w : World) (hs : s.size ≤ 20000) (hr : r ≤ p) (hp : p ≤ t) (ht : t ≤ s.size) :
    Calls Tryd.prog 74 #[.string s, .int .i64 r, .int .i64 p, .int .i64 t] w fun e w' => ∃ v', e = .returned v' ∧ Bts w' v' (Sk.packP s.data.toList r p t) ∧ Gr w (.slice none 0 0) w' v' := by
  go_enter Tryd.func74, Tryd.ntmps74
  go_wp2_with fail
  go_loopw [9, 10, 11] (fun u a b wr => ∃ k run pl : Nat, ∃ acc : List UInt8, p ≤ run ∧ run ≤ pl ∧ pl ≤ t ∧ t ≤ pl + k ∧ a = .int .i64 run ∧ b = .int .i64 pl ∧ acc.length ≤ 2 * (run - p) ∧ Bts wr u acc ∧ Gr w (.slice none 0 0) wr u ∧ Sk.packPN s.data.toList r t k run pl acc = Sk.packP s.data.toList r p t) (fun _ _ b _ => t - (intOf b).toNat)
  case atStart => exact ⟨t - p, p, p, [], by omega, by omega, by omega, by omega, rfl, rfl, by simp, Bts.nil _, Gr.refl _ _, rfl⟩
  case round =>
    obtain ⟨k, run, pl, acc, h1, h2, h3, h4, rfl, rfl, hacc, hbt, hgr, hinv⟩ := hrel
    have HI : Hid (Sk.packPN s.data.toList r t k run pl acc = Sk.packP s.data.toList r p t) := hinv
    have HB : Hid (Bts wr u9 acc) := hbt
    have HG : Hid (Gr w (.slice none 0 0) wr u9) := hgr
    clear hinv hbt hgr
    by_cases hlt : pl < t
    · obtain ⟨k, rfl⟩ : ∃ j, k = j + 1 := ⟨k - 1, by omega⟩
      have hbl := Sk.best_le s.data.toList r pl t (by omega)
      obtain ⟨z, hz⟩ : ∃ z, z = Sk.best s.data.toList r pl t := ⟨_, rfl⟩
      obtain ⟨n, d⟩ := z
      rw [← hz] at hbl
      have HZ : Hid (Sk.best s.data.toList r pl t = (n, d)) := hz.symm
      clear hz
      simp only at hbl
      obtain ⟨b1, b2, b3⟩ := hbl
      by_cases hn : n < 4
      · have HI2 : Hid (Sk.packPN s.data.toList r t k run (pl + 1) acc = Sk.packP s.data.toList r p t) := by
          have := HI.out
          rw [Sk.packPN, if_pos hlt, HZ.out, if_pos hn] at this
          exact this
        clear HI
        go_wp2_with (go_at_call 84; refine (longest_at s _ _ _ r pl t _ rfl rfl rfl (by omega) (by omega) (by omega) ht).mono ?_; rw [show Sk.bestN s.data.toList pl (min (t - pl) 131) (min (pl - r) 65535) 1 0 0 = (n, d) from HZ.out]; rintro e w' ⟨rfl, q, rfl⟩)
        go_roundw
        case rel => exact ⟨k, run, pl + 1, acc, by omega, by omega, by omega, by omega, rfl, by go_num, hacc, HB.out.drewN _, HG.out.drewN _, HI2.out⟩
        case measure => simp [intOf]; omega
      · have HI2 : Hid (Sk.packPN s.data.toList r t k (pl + n) (pl + n) (acc ++ Sk.runsOf (Sk.sub s.data.toList run pl) ++ Sk.copyOf d n) = Sk.packP s.data.toList r p t) := by
          have := HI.out
          rw [Sk.packPN, if_pos hlt, HZ.out, if_neg hn] at this
          exact this
        clear HI
        have hsl : (Sk.sub s.data.toList run pl).length = pl - run := Sk.sub_length _ _ _ (by simp; omega)
        have hrl := Sk.runsOf_length (Sk.sub s.data.toList run pl)
        have HR : Hid ((acc ++ Sk.runsOf (Sk.sub s.data.toList run pl)).length ≤ 2 * (pl - p)) := by show _ ≤ _; rw [List.length_append]; omega
        have HSL : Hid ((Sk.sub s.data.toList run pl).length = pl - run) := hsl
        clear hsl hrl
        go_wp2_with (first | (go_at_call 84; refine (longest_at s _ _ _ r pl t _ rfl rfl rfl (by omega) (by omega) (by omega) ht).mono ?_; rw [show Sk.bestN s.data.toList pl (min (t - pl) 131) (min (pl - r) 65535) 1 0 0 = (n, d) from HZ.out]; rintro e w' ⟨rfl, q, rfl⟩) | (go_at_call 85; refine (appendRuns_any _ acc _ (Sk.sub s.data.toList run pl) _ (ext_sub s run pl) (HB.out.drewN _) (by rw [HSL.out]; omega)).mono ?_; rintro e w2 ⟨v2, rfl, hb2, hg2⟩; have HB2 : Hid (Bts w2 v2 (acc ++ Sk.runsOf (Sk.sub s.data.toList run pl))) := hb2; have HG2 : Hid (Gr w (.slice none 0 0) w2 v2) := (HG.out.drewN _).trans hg2; clear hb2 hg2) | (go_at_call 86; refine (appendCopy_at v2 _ _ _ d n w2 rfl rfl HB2.out (by have := HR.out; omega) (by omega) (by omega) (by omega)).mono ?_; rintro e w3 ⟨v3, rfl, hb3, hg3⟩; have HB3 : Hid (Bts w3 v3 (acc ++ Sk.runsOf (Sk.sub s.data.toList run pl) ++ Sk.copyOf d n)) := hb3; have HG3 : Hid (Gr w (.slice none 0 0) w3 v3) := HG2.out.trans hg3; clear hb3 hg3))
        go_roundw
        case rel => exact ⟨k, pl + n, pl + n, _, by omega, by omega, by omega, by omega, by go_num, by go_num, by have := HR.out; rw [List.length_append, show (Sk.copyOf d n).length = 3 by simp [Sk.copyOf, Sk.le]]; omega, HB3.out, HG3.out, HI2.out⟩
        case measure => simp [intOf]; omega
    · have HI2 : Hid (acc ++ Sk.runsOf (Sk.sub s.data.toList run t) = Sk.packP s.data.toList r p t) := by
        have := HI.out
        rw [Sk.packPN_end _ _ _ _ _ _ _ hlt] at this
        exact this
      have HSL : Hid ((Sk.sub s.data.toList run t).length = t - run) := Sk.sub_length _ _ _ (by simp; omega)
      go_wp2_with (go_at_call 85; refine (appendRuns_any _ acc _ (Sk.sub s.data.toList run t) _ (ext_sub s run t) HB.out (by rw [HSL.out]; omega)).mono ?_; rintro e w2 ⟨v2, rfl, hb2, hg2⟩)
      go_ret
      exact ⟨_, rfl, by rw [← HI2.out]; exact hb2, HG.out.trans hg2⟩
end Go.Proofs.YtafkpmjifgohcaaDoor
