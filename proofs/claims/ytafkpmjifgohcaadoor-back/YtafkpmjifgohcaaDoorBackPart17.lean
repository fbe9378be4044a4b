/- The law Back, walked: whatever the input, it returns true. -/
import Derived.Test.YtafkpmjifgohcaaDoorBackPart14
import Derived.Test.YtafkpmjifgohcaaDoorBackPart16
namespace Go.Proofs.YtafkpmjifgohcaaDoor
open Go.RowKit

set_option maxRecDepth 100000 in
set_option maxHeartbeats 1000000 in
theorem repeated_any (s : ByteArray) (n : Nat) (w : World) (hs : s.size ≤ 1000) (hn : n ≤ 1000) :
    Calls Tryd.prog 20 #[.string s, .int .i64 n] w fun e w' => ∃ t : ByteArray, t.size ≤ 4000 ∧ e = .returned (.string t) ∧ w' = w := by
  go_enter Tryd.func20, Tryd.ntmps20
  go_wp2
  go_loop [5, 6] (fun x i => ∃ k : Nat, ∃ t : ByteArray, k ≤ n ∧ t.size ≤ 4000 ∧ i = .int .i64 k ∧ x = .string t) (fun _ i => n - (intOf i).toNat)
  case atStart => exact ⟨0, ⟨#[]⟩, Nat.zero_le _, by decide, rfl, rfl⟩
  case round =>
    obtain ⟨k, t, hk, ht, rfl, rfl⟩ := hrel
    by_cases h1 : k < n
    · by_cases h2 : t.size < 3000
      · have hz : (t ++ s).size = t.size + s.size := ByteArray.size_append
        go_wp2
        go_round
        case rel => exact ⟨k + 1, t ++ s, by omega, by omega, by go_num, rfl⟩
        case measure => simp [intOf]; omega
      · go_wp2
        go_ret
        exact ⟨t, ht, rfl, rfl⟩
    · go_wp2
      go_ret
      exact ⟨t, ht, rfl, rfl⟩

set_option maxRecDepth 100000 in
set_option maxHeartbeats 8000000 in
theorem back_law (s : ByteArray) (times size every from' count : Int) (A : Nat → Addr) (w : World) (h1 : Fits times) (h2 : Fits size) (h3 : Fits every) (h4 : Fits from') (h5 : Fits count) (hS : SentB w A w.heap.size) (hT : ErrT w) :
    Calls Tryd.prog 5 #[.string s, .int .i64 times, .int .i64 size, .int .i64 every, .int .i64 from', .int .i64 count] w fun e w' => e = .returned (.bool true) ∧ Below w.heap.size w w' := by
  have HS : Hid (SentB w A w.heap.size) := hS
  have HT : Hid (ErrT w) := hT
  have H1 : Hid (Fits times) := h1
  have H2 : Hid (Fits size) := h2
  have H3 : Hid (Fits every) := h3
  have H4 : Hid (Fits from') := h4
  have H5 : Hid (Fits count) := h5
  have hes4 := fun W : World => eq_same (W := W) (A 4)
  clear hS hT h1 h2 h3 h4 h5
  go_enter Tryd.func5, Tryd.ntmps5
  go_wp2_with fail
  refine (awake_any A w HS.out.errs).mono ?_
  rintro e w1 ⟨rfl, hb1⟩
  have HB1 : Hid (Below w.heap.size w w1) := hb1
  clear hb1
  go_wp2_with fail
  refine (short_any s 300 w1 (by decide)).mono ?_
  rintro e w2 ⟨t0, ht0, rfl, hw2⟩
  rw [hw2]
  clear hw2 w2
  go_wp2_with fail
  refine (pickK_any times 20 w1 H1.out (by decide) (by decide)).mono ?_
  rintro e w2 ⟨k, hk, rfl, hw2⟩
  rw [hw2]
  clear hw2 w2
  go_wp2_with fail
  rw [show (1 : Int) + (k : Int) = ((1 + k : Nat) : Int) by omega]
  refine (repeated_any t0 (1 + k) w1 (by omega) (by omega)).mono ?_
  rintro e w2 ⟨t, ht, rfl, hw2⟩
  rw [hw2]
  clear hw2 w2
  go_wp2_with fail
  refine (pickK_any size 80 w1 H2.out (by decide) (by decide)).mono ?_
  rintro e w2 ⟨b, hb, rfl, hw2⟩
  rw [hw2]
  clear hw2 w2
  go_wp2_with fail
  refine (pickK_any every 6 w1 H3.out (by decide) (by decide)).mono ?_
  rintro e w2 ⟨ev, hev, rfl, hw2⟩
  rw [hw2]
  clear hw2 w2
  go_wp2_with fail
  rw [show (1 : Int) + (b : Int) = ((1 + b : Nat) : Int) by omega, show (1 : Int) + (ev : Int) = ((1 + ev : Nat) : Int) by omega]
  refine (fileK_any t (1 + b) (1 + ev) A w1 (HS.out.below HB1.out).errs (by omega) (by omega) (by omega) (by omega) (by omega)).mono ?_
  rintro e w3 ⟨hb3, g, v, rfl, hpf⟩
  have hbl1 : 1 ≤ 1 + b := by omega
  have hbl2 : 1 + b ≤ 1024 := by omega
  generalize 1 + b = bl at hbl1 hbl2 hpf ⊢
  generalize 1 + ev = evy at hpf ⊢
  have HB3 : Hid (Below w.heap.size w w3) := HB1.out.trans (hb3.mono HB1.out.size)
  have HPF : Hid (PFile w3 w1.heap.size g ⟨(Sk.fileOf t.data.toList bl evy).toArray⟩ v (Sk.fblk t.data.toList bl evy t.size 0 0 3) t.size) := hpf
  clear hb3 hpf hb hev hk ht0
  go_wp2_with fail
  rw [show (t.size : Int) + 1 = ((t.size + 1 : Nat) : Int) by omega]
  refine (pickK_any from' (t.size + 1) w3 H4.out (by omega) (by omega)).mono ?_
  rintro e w4 ⟨f, hf, rfl, hw4⟩
  rw [hw4]
  clear hw4 w4
  go_wp2_with fail
  rw [show (t.size : Int) - (f : Int) + 1 = ((t.size - f + 1 : Nat) : Int) by omega]
  refine (pickK_any count (t.size - f + 1) w3 H5.out (by omega) (by omega)).mono ?_
  rintro e w4 ⟨c, hc, rfl, hw4⟩
  rw [hw4]
  clear hw4 w4
  have hcf : f + c ≤ t.size := by omega
  have HTL : Hid (t.data.toList.length = t.size) := Array.length_toList
  have HPF2 : ∀ W, Below w3.heap.size w3 W → PFile W w1.heap.size g ⟨(Sk.fileOf t.data.toList bl evy).toArray⟩ v (Sk.fblk t.data.toList bl evy t.data.toList.length 0 0 3) t.data.toList.length := fun W hW => by
    rw [HTL.out]; exact HPF.out.below hW
  have HP2 : Hid (∀ W, Below w3.heap.size w3 W → PFile W w1.heap.size g ⟨(Sk.fileOf t.data.toList bl evy).toArray⟩ v (Sk.fblk t.data.toList bl evy t.data.toList.length 0 0 3) t.data.toList.length) := HPF2
  have HSS : Hid (∀ W, Below w.heap.size w W → SentB W A W.heap.size) := fun W hW => ⟨(HS.out.below hW).s, Nat.le_trans HS.out.l hW.size, fun i hi => Nat.lt_of_lt_of_le (HS.out.a i hi) hW.size⟩
  clear HPF2 hc hf
  go_wp2_with fail
  refine (readBack_any w1.heap.size g t.data.toList bl evy v f c A w3 hbl1 hbl2 (by rw [HTL.out]; omega) (HP2.out w3 (Below.refl _ _)) (by rw [HTL.out]; exact hcf) (HSS.out w3 HB3.out)).mono ?_
  rintro e w4 ⟨rfl, hb4⟩
  have HB4 : Hid (Below w3.heap.size w3 w4) := hb4
  clear hb4
  go_wp2_with fail
  rw [show (0 : Int) = ((0 : Nat) : Int) from rfl]
  refine (readBack_any w1.heap.size g t.data.toList bl evy v 0 t.size A w4 hbl1 hbl2 (by rw [HTL.out]; omega) (HP2.out w4 HB4.out) (by rw [HTL.out]; omega) (HSS.out w4 (HB3.out.trans (HB4.out.mono HB3.out.size)))).mono ?_
  rintro e w5 ⟨rfl, hb5⟩
  have HB5 : Hid (Below w3.heap.size w3 w5) := HB4.out.trans (hb5.mono HB4.out.size)
  clear hb5
  have hall : (⟨(Sk.sub t.data.toList 0 (0 + t.size)).toArray⟩ : ByteArray) = t := by
    apply ByteArray.ext
    apply Array.ext'
    rw [Nat.zero_add, ← HTL.out, Sk.sub_end]
    simp
  rw [hall]
  clear hall
  go_wp2_with fail
  refine (readAt_range w1.heap.size g _ v _ t.data.toList.length f _ (A 4) w5 (HP2.out w5 HB5.out) (by rw [HTL.out]; omega) ⟨by omega, by omega⟩ (.inr (.inr (by rw [HTL.out]; omega))) ((HSS.out w5 (HB3.out.trans (HB5.out.mono HB3.out.size))).s.cell 4 (by decide))).mono ?_
  rintro e w6 ⟨rfl, hb6⟩
  have HB6 : Hid (Below w3.heap.size w3 w6) := HB5.out.trans (hb6.mono HB5.out.size)
  clear hb6
  have HGF : Hid (Sk.Good (Sk.fileOf t.data.toList bl evy) (Sk.fblk t.data.toList bl evy t.data.toList.length 0 0 3) t.data.toList.length ∧ (Sk.fblk t.data.toList bl evy t.data.toList.length 0 0 3).length ≤ 20000 ∧ (Sk.fileOf t.data.toList bl evy).length ≤ 65536) := by
    have hfl := Sk.fileOf_length t.data.toList bl evy hbl1
    have hop := Sk.openR_file t.data.toList bl evy hbl1 hbl2 (by rw [HTL.out]; omega) (by rw [HTL.out] at hfl; omega)
    have hG := Sk.openR_good (Sk.fileOf t.data.toList bl evy)
    have hlen := (Sk.openR_data (Sk.fileOf t.data.toList bl evy)).2
    rw [hop] at hG hlen
    refine ⟨hG, ?_, by rw [HTL.out] at hfl; omega⟩
    have := HTL.out
    have h2 : (Sk.fblk t.data.toList bl evy t.data.toList.length 0 0 3).length ≤ t.data.toList.length := hlen
    omega
  have HBL : Hid (Sk.badL (Sk.fileOf t.data.toList bl evy) (Sk.fblk t.data.toList bl evy t.data.toList.length 0 0 3) (Sk.fblk t.data.toList bl evy t.data.toList.length 0 0 3).length = []) := Sk.badL_file _ _ _ hbl1 hbl2 (by rw [HTL.out]; omega)
  go_wp2_with fail
  refine (check_any w1.heap.size g ⟨(Sk.fileOf t.data.toList bl evy).toArray⟩ v _ t.data.toList.length A w6 (HP2.out w6 HB6.out) (by rw [dl_str]; exact HGF.out.1) (by show (Sk.fileOf t.data.toList bl evy).toArray.size ≤ _; have := HGF.out.2.2; simp; omega) HGF.out.2.1 (HSS.out w6 (HB3.out.trans (HB6.out.mono HB3.out.size))) (HT.out.below (HB3.out.trans (HB6.out.mono HB3.out.size)))).mono ?_
  rw [dl_str, HBL.out]
  rintro e w7 ⟨l, rfl, hl, hg7⟩
  have HB7 : Hid (Below w.heap.size w w7) := (HB3.out.trans (HB6.out.mono HB3.out.size)).trans ((gr_nil_below hg7).mono (Nat.le_trans HB3.out.size HB6.out.size))
  obtain ⟨lo, lcap, el⟩ := hl.form
  rw [el]
  clear hl hg7 el
  have hex : t.extract f (f + c) = ⟨(Sk.sub t.data.toList f (f + c)).toArray⟩ := extract_sub t f (f + c)
  have g4 := (HS.out.below HB7.out).s.cell 4 (by decide)
  simp only [gv] at g4
  have hfi : (f : Int) + (c : Int) ≤ (t.size : Int) := by omega
  go_wp2_with fail
  go_ret
  exact ⟨rfl, HB7.out⟩
end Go.Proofs.YtafkpmjifgohcaaDoor
