/- The document's Pack. -/
import Derived.Test.YtafkpmjifgohcaaGreatDoorAlluptoPart17
import Derived.Test.YtafkpmjifgohcaaGreatDoorAlluptoPart1
import Derived.Test.YtafkpmjifgohcaaGreatDoorAlluptoPart19
namespace Go.Proofs.YtafkpmjifgohcaaGreatDoor
open Go.RowKit

set_option maxHeartbeats 800000 in
theorem refPack_bad (s : ByteArray) (B E : Int) (w : World) (h : ¬ (s.size ≤ 20000 ∧ 1 ≤ B ∧ B ≤ 1024 ∧ 1 ≤ E ∧ E ≤ 100)) :
    Calls Tryz.prog 19 #[.string s, .int .i64 B, .int .i64 E] w fun e w' => e = .returned (.tuple #[.string ⟨#[]⟩, .int .i64 1]) ∧ w' = w := by
  have hc := pack_cases s.size B E h
  clear h
  rcases hc with h1 | ⟨h1, h2⟩ | ⟨h1, h2, h3⟩ | ⟨h1, h2, h3, h4⟩ | ⟨h1, h2, h3, h4, h5⟩
  all_goals
    go_enter Tryz.func19, Tryz.ntmps19
    go_wp2
    go_ret2
    exact ⟨rfl, rfl⟩

/-- One block's bytes, as the document's Pack puts them behind what is there. -/
theorem blk_str (out P : List UInt8) (b : Bool) (n m x : Nat) (i : Nat) (hi : i = if b then 1 else 0) :
    ((⟨out.toArray⟩ : ByteArray) ++ (⟨(Sk.le i 1).toArray⟩ : ByteArray) ++ (⟨(Sk.le n 2).toArray⟩ : ByteArray) ++ (⟨(Sk.le m 2).toArray⟩ : ByteArray) ++ (⟨(Sk.le x 4).toArray⟩ : ByteArray) ++ (⟨P.toArray⟩ : ByteArray)) = ⟨(out ++ (Sk.hdr b n m x ++ P)).toArray⟩ := by
  subst hi
  rw [cat_str, cat_str, cat_str, cat_str, cat_str]
  simp only [Sk.hdr, List.append_assoc]

theorem refSum_at (P : List UInt8) (w : World) (hP : P.length ≤ 1000000) :
    Calls Tryz.prog 37 #[.string ⟨P.toArray⟩] w fun e w' => e = .returned (.int .i64 (Sk.sumOf P)) ∧ w' = w :=
  refSum_any ⟨P.toArray⟩ w (by rw [sizeOfList]; exact hP)

set_option maxHeartbeats 1600000 in
theorem refPack_good (s : ByteArray) (block every : Nat) (w : World) (hs : s.size ≤ 20000) (hb1 : 1 ≤ block) (hb2 : block ≤ 1024) (he1 : 1 ≤ every) (he2 : every ≤ 100) :
    Calls Tryz.prog 19 #[.string s, .int .i64 block, .int .i64 every] w fun e w' => Below w.heap.size w w' ∧
      ((Sk.fileOf s.data.toList block every).length ≤ 65536 → e = .returned (.tuple #[.string ⟨(Sk.fileOf s.data.toList block every).toArray⟩, .int .i64 0])) ∧
      (¬ (Sk.fileOf s.data.toList block every).length ≤ 65536 → e = .returned (.tuple #[.string ⟨#[]⟩, .int .i64 1])) := by
  have hlen : s.data.toList.length = s.size := Array.length_toList
  have HL : Hid (s.data.toList.length = s.size) := hlen
  clear hlen
  go_enter Tryz.func19, Tryz.ntmps19
  go_wp2
  go_loopw [8, 9, 10] (fun o a b wr => ∃ f k r p : Nat, ∃ out : List UInt8, p = k * block ∧ o = .string ⟨out.toArray⟩ ∧ a = .int .i64 r ∧ b = .int .i64 k ∧ r ≤ p ∧ p ≤ s.size + block ∧ s.size ≤ k + f ∧ k ≤ p ∧ out.length ≤ 3 + 11 * min p s.size ∧ Below w.heap.size w wr ∧ Sk.blocksN s.data.toList block every f k r out = Sk.fileOf s.data.toList block every) (fun _ _ b _ => s.size - (intOf b).toNat)
  case atStart => exact ⟨s.size, 0, 0, 0, [83, 75, 49], by simp, rfl, rfl, rfl, by omega, by omega, by omega, by omega, by simp, Below.refl _ _, by rw [Sk.fileOf, HL.out]⟩
  case round =>
    obtain ⟨f, k, r, p, out, hp, rfl, rfl, rfl, hrp, hps, hkf, hkp, hol, hbel, hinv⟩ := hrel
    have HP : Hid (p = k * block) := hp
    have HW : Hid (Below w.heap.size w wr) := hbel
    have HI : Hid (Sk.blocksN s.data.toList block every f k r out = Sk.fileOf s.data.toList block every) := hinv
    have hmul : (k : Int) * (block : Int) = (p : Int) := by rw [hp]; push_cast; rfl
    clear hp hbel hinv
    by_cases hlt : p < s.size
    · obtain ⟨f, rfl⟩ : ∃ j, f = j + 1 := ⟨f - 1, by omega⟩
      obtain ⟨t, ht⟩ : ∃ t, t = Sk.endOf s.data.toList block k := ⟨_, rfl⟩
      have ht' : t = min (p + block) s.size := by rw [ht, Sk.endOf, HL.out, ← HP.out]
      obtain ⟨b, hb⟩ : ∃ b, b = (k % every == 0) := ⟨_, rfl⟩
      obtain ⟨r', hr'⟩ : ∃ r', r' = Sk.fromOf block every k r := ⟨_, rfl⟩
      obtain ⟨P, hP⟩ : ∃ P, P = Sk.packR s.data.toList r' p t := ⟨_, rfl⟩
      have t1 : p < t := by omega
      have t2 : t ≤ s.size := by omega
      have t3 : t ≤ p + block := by omega
      have HT : Hid (t = min (p + block) s.size) := ht'
      have P1 : P.length ≤ 2 * (t - p) := by rw [hP]; exact Sk.packR_length _ _ _ _ (by omega) (by rw [HL.out]; exact t2)
      have HPe : Hid (Sk.packR s.data.toList r' p t = P) := hP.symm
      have hsx := sumOf_lt P
      have HI2 : Hid (Sk.blocksN s.data.toList block every f (k + 1) r' (out ++ (Sk.hdr b (t - p) P.length (Sk.sumOf P) ++ P)) = Sk.fileOf s.data.toList block every) := by
        have := HI.out
        rw [Sk.blocksN, if_pos (by rw [HL.out, ← HP.out]; exact hlt), Sk.blockOf, ← hr', ← hb, ← HP.out, ← ht, ← hP] at this
        exact this
      have hcase : (((k : Int) % (every : Int) == 0) = true ∧ b = true ∧ r' = p) ∨ (((k : Int) % (every : Int) == 0) = false ∧ b = false ∧ r' = r) := by
        by_cases hm : k % every = 0
        · refine .inl ⟨?_, by rw [hb]; simpa using hm, by rw [hr', Sk.fromOf, if_pos hm, HP.out]⟩
          rw [beq_iff_eq]; omega
        · refine .inr ⟨?_, by rw [hb]; simpa using hm, by rw [hr', Sk.fromOf, if_neg hm]⟩
          rw [beq_eq_false_iff_ne]; omega
      have hend : ((s.size : Int) < (p : Int) + block) ∨ ((p : Int) + block ≤ s.size) := by omega
      have hr2 : r' ≤ p := by rcases hcase with ⟨_, _, h⟩ | ⟨_, _, h⟩ <;> omega
      have hol2 : out.length ≤ 300000 := by omega
      have hpl : P.length ≤ 2048 := by omega
      have hle : ∀ n k, (Sk.le n k).length = k := fun n k => Sk.le_length k n
      clear ht ht' hb hr' hP HI
      rcases hcase with ⟨hf, rfl, h⟩ | ⟨hf, rfl, h⟩
      all_goals
        have HRe : Hid (r' = _) := h
        clear h
        rcases hend with he | he
        all_goals
          go_wp2_with fail
          refine (refPacked_at s _ _ _ r' p t wr (by have := HRe.out; omega) rfl (by have := HT.out; omega) hs hr2 (by omega) t2).mono ?_
          rw [HPe.out]
          rintro e w1 ⟨rfl, hb1'⟩
          have HB1 : Hid (Below w.heap.size w w1) := HW.out.trans (hb1'.mono HW.out.size)
          clear hb1'
          go_wp2_with fail
          refine (refSum_at P w1 (by omega)).mono ?_
          rintro e w2 ⟨rfl, rfl⟩
          go_wp2_with fail
          refine (refBytes_at _ _ _ 1 _ rfl rfl (by decide) (by decide)).mono ?_
          rintro e w3 ⟨rfl, hb3⟩
          have HB3 : Hid (Below w.heap.size w w3) := HB1.out.trans (hb3.mono HB1.out.size)
          clear hb3
          go_wp2_with fail
          refine (refBytes_at _ _ (t - p) 2 _ (by have := HT.out; omega) rfl (by omega) (by decide)).mono ?_
          rintro e w4 ⟨rfl, hb4⟩
          have HB4 : Hid (Below w.heap.size w w4) := HB3.out.trans (hb4.mono HB3.out.size)
          clear hb4
          go_wp2_with fail
          refine (refBytes_at _ _ P.length 2 _ rfl rfl (by omega) (by decide)).mono ?_
          rintro e w5 ⟨rfl, hb5⟩
          have HB5 : Hid (Below w.heap.size w w5) := HB4.out.trans (hb5.mono HB4.out.size)
          clear hb5
          go_wp2_with fail
          refine (refBytes_at _ _ (Sk.sumOf P) 4 _ rfl rfl (by omega) (by decide)).mono ?_
          rintro e w6 ⟨rfl, hb6⟩
          have HB6 : Hid (Below w.heap.size w w6) := HB5.out.trans (hb6.mono HB5.out.size)
          clear hb6
          go_wp2
          go_roundw
          case rel =>
            refine ⟨f, k + 1, r', p + block, _, by rw [HP.out, Nat.succ_mul], congrArg Value.string (blk_str out P _ (t - p) P.length (Sk.sumOf P) _ rfl), by have := HRe.out; go_num, by go_num, by omega, by omega, by omega, by omega, ?_, HB6.out, HI2.out⟩
            rw [List.length_append, List.length_append, Sk.hdr_length]
            have := HT.out
            omega
          case measure => simp [intOf]; omega
    · have HI2 : Hid (out = Sk.fileOf s.data.toList block every) := by
        have := HI.out
        rw [Sk.blocksN_end _ _ _ _ _ _ _ (by rw [HL.out, ← HP.out]; exact hlt)] at this
        exact this
      by_cases h65 : out.length ≤ 65536
      · go_wp2
        go_ret2
        exact ⟨HW.out, by rw [← HI2.out]; exact fun _ => rfl, by rw [← HI2.out]; exact fun h => absurd h65 h⟩
      · go_wp2
        go_ret2
        exact ⟨HW.out, by rw [← HI2.out]; exact fun h => absurd h h65, by rw [← HI2.out]; exact fun _ => rfl⟩

/-- The document's Pack, whatever it is called with. -/
theorem refPack_any (s : ByteArray) (B E : Int) (w : World) :
    Calls Tryz.prog 19 #[.string s, .int .i64 B, .int .i64 E] w fun e w' => Below w.heap.size w w' ∧
      e = .returned (match packOut s.data.toList B E with | some f => .tuple #[.string ⟨f.toArray⟩, .int .i64 0] | none => .tuple #[.string ⟨#[]⟩, .int .i64 1]) := by
  have hlen : s.data.toList.length = s.size := Array.length_toList
  by_cases h : s.size ≤ 20000 ∧ 1 ≤ B ∧ B ≤ 1024 ∧ 1 ≤ E ∧ E ≤ 100
  · obtain ⟨h1, h2, h3, h4, h5⟩ := h
    have g := refPack_good s B.toNat E.toNat w h1 (by omega) (by omega) (by omega) (by omega)
    rw [show ((B.toNat : Nat) : Int) = B by omega, show ((E.toNat : Nat) : Int) = E by omega] at g
    refine g.mono fun e w' ⟨hb, g1, g2⟩ => ⟨hb, ?_⟩
    unfold packOut
    rw [if_pos (by rw [hlen]; exact ⟨h1, h2, h3, h4, h5⟩)]
    by_cases hf : (Sk.fileOf s.data.toList B.toNat E.toNat).length ≤ 65536
    · rw [if_pos hf]; exact g1 hf
    · rw [if_neg hf]; exact g2 hf
  · refine (refPack_bad s B E w h).mono fun e w' ⟨he, hb⟩ => ⟨by rw [hb]; exact Below.refl _ _, ?_⟩
    unfold packOut
    rw [if_neg (by rw [hlen]; exact h)]
    exact he
end Go.Proofs.YtafkpmjifgohcaaGreatDoor
