/- What was packed is read: the calls.
The law Back, walked: whatever the input, it returns true. -/
import Derived.Test.YtafkpmjifgohcaaDoorBackPart20
import Derived.Test.YtafkpmjifgohcaaDoorBackPart4
import Derived.Test.YtafkpmjifgohcaaDoorBackPart18
import Derived.Test.YtafkpmjifgohcaaDoorBackPart21
import Derived.LaidHandle
namespace Go.Proofs.YtafkpmjifgohcaaDoor
open Go.RowKit Go.ChangeShapes Go.WideShapes

theorem Sk.fblk_in (s : List UInt8) (block every : Nat) (hb1 : 1 ≤ block) : ∀ f k r p j, j < (Sk.fblk s block every f k r p).length → (k + j) * block < s.length
  | 0, k, r, p, j, h => by simp [Sk.fblk] at h
  | f + 1, k, r, p, j, h => by
    rw [Sk.fblk] at h
    split at h
    · next hk =>
      cases j with
      | zero => exact hk
      | succ j =>
        have := Sk.fblk_in s block every hb1 f (k + 1) _ _ j (by simpa using h)
        rwa [show k + (j + 1) = k + 1 + j by omega]
    · simp at h

/-- The k-th block of what was packed. -/
theorem Sk.fblk_k (s : List UInt8) (block every : Nat) (hb1 : 1 ≤ block) (hb2 : block ≤ 1024) (hs : s.length ≤ 20000) (k : Nat) (hk : k < (Sk.fblk s block every s.length 0 0 3).length) :
    k * block < s.length ∧ (Sk.bk (Sk.fblk s block every s.length 0 0 3) k).frm = k * block ∧ (Sk.bk (Sk.fblk s block every s.length 0 0 3) k).size = Sk.endOf s block k - k * block ∧ (Sk.bk (Sk.fblk s block every s.length 0 0 3) k).fresh = (k % every == 0) := by
  have h0 := Sk.fblk_in s block every hb1 s.length 0 0 3 k hk
  rw [Nat.zero_add] at h0
  have hat := Sk.fblk_at s block every hb1 hb2 hs (Sk.fileOf s block every) s.length 0 0 [83, 75, 49] (by omega) rfl k (by rw [Nat.zero_add]; exact h0)
  rw [Nat.zero_add, show ([83, 75, 49] : List UInt8).length = 3 from rfl] at hat
  exact ⟨h0, hat.2.1, hat.2.2.1, hat.2.2.2.1⟩

theorem Sk.sub_sub (s : List UInt8) (a b x y : Nat) (h : a + y ≤ b) : Sk.sub (Sk.sub s a b) x y = Sk.sub s (a + x) (a + y) := by
  unfold Sk.sub
  rw [List.drop_take, List.drop_drop, List.take_take]
  congr 1
  omega

/-- Nothing of what was packed is bad. -/
theorem Sk.badL_file (s : List UInt8) (block every : Nat) (hb1 : 1 ≤ block) (hb2 : block ≤ 1024) (hs : s.length ≤ 20000) : Sk.badL (Sk.fileOf s block every) (Sk.fblk s block every s.length 0 0 3) (Sk.fblk s block every s.length 0 0 3).length = [] := by
  have := Sk.badL_goods (s := Sk.fileOf s block every) (bs := Sk.fblk s block every s.length 0 0 3) (a := 0) (Sk.fblk s block every s.length 0 0 3).length (fun i hi => by
    rw [Nat.zero_add]
    unfold Sk.isBad
    rw [Sk.upto_file s block every hb1 hb2 hs i (Sk.fblk_k s block every hb1 hb2 hs i hi).1])
  rwa [Nat.zero_add] at this

theorem extract_sub (s : ByteArray) (a b : Nat) : s.extract a b = ⟨(Sk.sub s.data.toList a b).toArray⟩ := by
  apply ByteArray.ext
  apply Array.ext'
  simp [Sk.sub, List.extract]

/-- What was packed is read, any part of it. -/
theorem readBack_any (B g : Nat) (t : List UInt8) (block every : Nat) (v : Value) (f c : Nat) (A : Nat → Addr) (w : World) (hb1 : 1 ≤ block) (hb2 : block ≤ 1024) (ht : t.length ≤ 5000)
    (hP : PFile w B g ⟨(Sk.fileOf t block every).toArray⟩ v (Sk.fblk t block every t.length 0 0 3) t.length) (hfc : f + c ≤ t.length) (hS : SentB w A w.heap.size) :
    Calls Tryd.prog 21 #[.pointer (some ⟨g, 0, none⟩), .int .i64 f, .int .i64 c] w fun e w' => e = .returned (.tuple #[.string ⟨(Sk.sub t f (f + c)).toArray⟩, .nilIface]) ∧ Below w.heap.size w w' := by
  rcases Nat.eq_zero_or_pos c with rfl | hc
  · refine (readAt_zero B g _ v _ t.length f w hP (by omega) (by omega)).mono ?_
    rintro e w' ⟨rfl, rfl⟩
    rw [Nat.add_zero, Sk.sub_self]
    exact ⟨rfl, Below.refl _ _⟩
  · have hop := Sk.openR_file t block every hb1 hb2 (by omega) (by have := Sk.fileOf_length t block every hb1; omega)
    have hG := Sk.openR_good (Sk.fileOf t block every)
    have hlen := (Sk.openR_data (Sk.fileOf t block every)).2
    rw [hop] at hG hlen
    dsimp only at hG hlen
    obtain ⟨k0, q0⟩ := hG.find f (by omega)
    obtain ⟨k1, q1⟩ := hG.find (f + c - 1) (by omega)
    have z0 := Sk.fblk_k t block every hb1 hb2 (by omega) k0 q0.1
    have z1 := Sk.fblk_k t block every hb1 hb2 (by omega) k1 q1.1
    have hlf := Sk.lastF_le (Sk.fblk t block every t.length 0 0 3) k0
    have zf := Sk.fblk_k t block every hb1 hb2 (by omega) (Sk.lastF (Sk.fblk t block every t.length 0 0 3) k0) (by have := q0.1; omega)
    have hkk : k0 ≤ k1 := by
      rcases Nat.lt_or_ge k1 k0 with h | h
      · have := hG.hi q1.2.2 k0 h q0.1
        omega
      · exact h
    have hD := Sk.dataN_file t block every hb1 hb2 (by omega) (Sk.lastF (Sk.fblk t block every t.length 0 0 3) k0) (k1 + 1 - Sk.lastF (Sk.fblk t block every t.length 0 0 3) k0) (fun j hj => Nat.lt_of_le_of_lt (Nat.mul_le_mul_right _ (by omega)) z1.1)
    have hsz : (⟨(Sk.fileOf t block every).toArray⟩ : ByteArray).size ≤ 65536 := by
      show (Sk.fileOf t block every).toArray.size ≤ _
      have := Sk.fileOf_length t block every hb1
      simp; omega
    refine (readAt_good B g ⟨(Sk.fileOf t block every).toArray⟩ v _ t.length f c k0 k1 _ (A 5) w hP (by show Sk.Good (Sk.fileOf t block every).toArray.toList _ _; rw [List.toList_toArray]; exact hG) hsz (by omega) hc hfc q0 q1 (hS.s.cell 5 (by decide)) (by show Sk.dataN (Sk.fileOf t block every).toArray.toList _ _ _ = _; rw [List.toList_toArray]; exact hD)).mono ?_
    rintro e w' ⟨rfl, hb⟩
    refine ⟨?_, hb⟩
    have hfl : (Sk.bk (Sk.fblk t block every t.length 0 0 3) (Sk.lastF (Sk.fblk t block every t.length 0 0 3) k0)).frm ≤ f := by
      have := hG.lo q0.1 q0.2.1 _ hlf
      omega
    rw [zf.2.1] at hfl ⊢
    have hend : f + c ≤ min ((Sk.lastF (Sk.fblk t block every t.length 0 0 3) k0 + (k1 + 1 - Sk.lastF (Sk.fblk t block every t.length 0 0 3) k0)) * block) t.length := by
      rw [show Sk.lastF (Sk.fblk t block every t.length 0 0 3) k0 + (k1 + 1 - Sk.lastF (Sk.fblk t block every t.length 0 0 3) k0) = k1 + 1 by omega, Nat.add_mul, Nat.one_mul]
      have h1 := q1.2.2
      rw [z1.2.1, z1.2.2.1] at h1
      have hE : Sk.endOf t block k1 ≤ k1 * block + block := by unfold Sk.endOf; omega
      omega
    rw [Sk.sub_sub _ _ _ _ _ (by omega)]
    generalize Sk.lastF (Sk.fblk t block every t.length 0 0 3) k0 * block = x at hfl ⊢
    rw [show x + (f - x) = f by omega, show x + (f - x + c) = f + c by omega]

/-- The type of errors, out of the row's list. -/
theorem Tryd.gET : Tryd.prog.globalNamed "errors.errorType" = some 7 := by kernel_rfl
theorem Tryd.rtT : (Tryd.prog.cutTypes.find? (·.1 == "internal/reflectlite.rtype")).map (·.2) = some 137 := by kernel_rfl
theorem Tryd.oneRow : ((List.range 201).filter fun t => Tryd.prog.rowNamed t [101, 114, 114, 111, 114]) = [23] := by kernel_rfl
theorem Tryd.typesSize : Tryd.prog.types.size = 201 := by kernel_rfl
theorem errT_of_eight {W : World} (h : laidMetH Tryd.prog eightLaid W) : ErrT W := by
  have h' : laidMet Tryd.prog sevenLaid W ∧ handlesMet Tryd.prog [("errors.errorType", Rows.laid_errors_errorType)] W := h
  obtain ⟨name, u, ty, e1, e2, e3, e4, e5⟩ := h'.2 _ (List.mem_singleton.2 rfl)
  have en : name = [101, 114, 114, 111, 114] := (Option.some.inj e1).symm
  subst en
  obtain rfl := Option.some.inj (Tryd.rtT.symm.trans e2)
  have hm : ty ∈ (List.range 201).filter fun t => Tryd.prog.rowNamed t [101, 114, 114, 111, 114] := List.mem_filter.2 ⟨List.mem_range.2 (by rw [← Tryd.typesSize]; exact e3), e4⟩
  rw [Tryd.oneRow] at hm
  obtain rfl := List.mem_singleton.1 hm
  have hh : typeHandle Tryd.prog 23 = .pointer (some ⟨8, 23, none⟩) := by kernel_rfl
  rw [hh] at e5
  unfold ErrT
  simpa using World.var?_cell Tryd.gET e5 0
end Go.Proofs.YtafkpmjifgohcaaDoor

namespace Go.Proofs.YtafkpmjifgohcaaDoor
open Go.RowKit

set_option maxRecDepth 100000 in
set_option maxHeartbeats 1000000 in
theorem repeated_any (s : ByteArray) (n : Nat) (w : World) (hs : s.size ≤ 1000) (hn : n ≤ 1000) :
    Calls Tryd.prog 20 #[.string s, .int .i64 n] w fun e w' => ∃ t : ByteArray, t.size ≤ 4000 ∧ e = .returned (.string t) ∧ w' = w := by
  go_enter Tryd.func20, Tryd.ntmps20
  go_wp2
  go_loop [5, 6] (fun x i => ∃ k : Nat, ∃ t : ByteArray, k ≤ n ∧ t.size ≤ 4000 ∧ i = .int .i64 k ∧ x = .string t) (fun _ i => n - (intOf i).toNat)
  case atStart => exact ⟨0, ⟨#[]⟩, Nat.zero_le _, by decide, rfl, rfl⟩
  case round =>
    obtain ⟨k, t, hk, ht, rfl, rfl⟩ := hrel
    by_cases h1 : k < n
    · by_cases h2 : t.size < 3000
      · have hz : (t ++ s).size = t.size + s.size := ByteArray.size_append
        go_wp2
        go_round
        case rel => exact ⟨k + 1, t ++ s, by omega, by omega, by go_num, rfl⟩
        case measure => simp [intOf]; omega
      · go_wp2
        go_ret
        exact ⟨t, ht, rfl, rfl⟩
    · go_wp2
      go_ret
      exact ⟨t, ht, rfl, rfl⟩

set_option maxRecDepth 100000 in
set_option maxHeartbeats 8000000 in
theorem back_law (s : ByteArray) (times size every from' count : Int) (A : Nat → Addr) (w : World) (h1 : Fits times) (h2 : Fits size) (h3 : Fits every) (h4 : Fits from') (h5 : Fits count) (hS : SentB w A w.heap.size) (hT : ErrT w) :
    Calls Tryd.prog 5 #[.string s, .int .i64 times, .int .i64 size, .int .i64 every, .int .i64 from', .int .i64 count] w fun e w' => e = .returned (.bool true) ∧ Below w.heap.size w w' := by
  have HS : Hid (SentB w A w.heap.size) := hS
  have HT : Hid (ErrT w) := hT
  have H1 : Hid (Fits times) := h1
  have H2 : Hid (Fits size) := h2
  have H3 : Hid (Fits every) := h3
  have H4 : Hid (Fits from') := h4
  have H5 : Hid (Fits count) := h5
  have hes4 := fun W : World => eq_same (W := W) (A 4)
  clear hS hT h1 h2 h3 h4 h5
  go_enter Tryd.func5, Tryd.ntmps5
  go_wp2_with fail
  refine (awake_any A w HS.out.errs).mono ?_
  rintro e w1 ⟨rfl, hb1⟩
  have HB1 : Hid (Below w.heap.size w w1) := hb1
  clear hb1
  go_wp2_with fail
  refine (short_any s 300 w1 (by decide)).mono ?_
  rintro e w2 ⟨t0, ht0, rfl, hw2⟩
  rw [hw2]
  clear hw2 w2
  go_wp2_with fail
  refine (pickK_any times 20 w1 H1.out (by decide) (by decide)).mono ?_
  rintro e w2 ⟨k, hk, rfl, hw2⟩
  rw [hw2]
  clear hw2 w2
  go_wp2_with fail
  rw [show (1 : Int) + (k : Int) = ((1 + k : Nat) : Int) by omega]
  refine (repeated_any t0 (1 + k) w1 (by omega) (by omega)).mono ?_
  rintro e w2 ⟨t, ht, rfl, hw2⟩
  rw [hw2]
  clear hw2 w2
  go_wp2_with fail
  refine (pickK_any size 80 w1 H2.out (by decide) (by decide)).mono ?_
  rintro e w2 ⟨b, hb, rfl, hw2⟩
  rw [hw2]
  clear hw2 w2
  go_wp2_with fail
  refine (pickK_any every 6 w1 H3.out (by decide) (by decide)).mono ?_
  rintro e w2 ⟨ev, hev, rfl, hw2⟩
  rw [hw2]
  clear hw2 w2
  go_wp2_with fail
  rw [show (1 : Int) + (b : Int) = ((1 + b : Nat) : Int) by omega, show (1 : Int) + (ev : Int) = ((1 + ev : Nat) : Int) by omega]
  refine (fileK_any t (1 + b) (1 + ev) A w1 (HS.out.below HB1.out).errs (by omega) (by omega) (by omega) (by omega) (by omega)).mono ?_
  rintro e w3 ⟨hb3, g, v, rfl, hpf⟩
  have hbl1 : 1 ≤ 1 + b := by omega
  have hbl2 : 1 + b ≤ 1024 := by omega
  generalize 1 + b = bl at hbl1 hbl2 hpf ⊢
  generalize 1 + ev = evy at hpf ⊢
  have HB3 : Hid (Below w.heap.size w w3) := HB1.out.trans (hb3.mono HB1.out.size)
  have HPF : Hid (PFile w3 w1.heap.size g ⟨(Sk.fileOf t.data.toList bl evy).toArray⟩ v (Sk.fblk t.data.toList bl evy t.size 0 0 3) t.size) := hpf
  clear hb3 hpf hb hev hk ht0
  go_wp2_with fail
  rw [show (t.size : Int) + 1 = ((t.size + 1 : Nat) : Int) by omega]
  refine (pickK_any from' (t.size + 1) w3 H4.out (by omega) (by omega)).mono ?_
  rintro e w4 ⟨f, hf, rfl, hw4⟩
  rw [hw4]
  clear hw4 w4
  go_wp2_with fail
  rw [show (t.size : Int) - (f : Int) + 1 = ((t.size - f + 1 : Nat) : Int) by omega]
  refine (pickK_any count (t.size - f + 1) w3 H5.out (by omega) (by omega)).mono ?_
  rintro e w4 ⟨c, hc, rfl, hw4⟩
  rw [hw4]
  clear hw4 w4
  have hcf : f + c ≤ t.size := by omega
  have HTL : Hid (t.data.toList.length = t.size) := Array.length_toList
  have HPF2 : ∀ W, Below w3.heap.size w3 W → PFile W w1.heap.size g ⟨(Sk.fileOf t.data.toList bl evy).toArray⟩ v (Sk.fblk t.data.toList bl evy t.data.toList.length 0 0 3) t.data.toList.length := fun W hW => by
    rw [HTL.out]; exact HPF.out.below hW
  have HP2 : Hid (∀ W, Below w3.heap.size w3 W → PFile W w1.heap.size g ⟨(Sk.fileOf t.data.toList bl evy).toArray⟩ v (Sk.fblk t.data.toList bl evy t.data.toList.length 0 0 3) t.data.toList.length) := HPF2
  have HSS : Hid (∀ W, Below w.heap.size w W → SentB W A W.heap.size) := fun W hW => ⟨(HS.out.below hW).s, Nat.le_trans HS.out.l hW.size, fun i hi => Nat.lt_of_lt_of_le (HS.out.a i hi) hW.size⟩
  clear HPF2 hc hf
  go_wp2_with fail
  refine (readBack_any w1.heap.size g t.data.toList bl evy v f c A w3 hbl1 hbl2 (by rw [HTL.out]; omega) (HP2.out w3 (Below.refl _ _)) (by rw [HTL.out]; exact hcf) (HSS.out w3 HB3.out)).mono ?_
  rintro e w4 ⟨rfl, hb4⟩
  have HB4 : Hid (Below w3.heap.size w3 w4) := hb4
  clear hb4
  go_wp2_with fail
  rw [show (0 : Int) = ((0 : Nat) : Int) from rfl]
  refine (readBack_any w1.heap.size g t.data.toList bl evy v 0 t.size A w4 hbl1 hbl2 (by rw [HTL.out]; omega) (HP2.out w4 HB4.out) (by rw [HTL.out]; omega) (HSS.out w4 (HB3.out.trans (HB4.out.mono HB3.out.size)))).mono ?_
  rintro e w5 ⟨rfl, hb5⟩
  have HB5 : Hid (Below w3.heap.size w3 w5) := HB4.out.trans (hb5.mono HB4.out.size)
  clear hb5
  have hall : (⟨(Sk.sub t.data.toList 0 (0 + t.size)).toArray⟩ : ByteArray) = t := by
    apply ByteArray.ext
    apply Array.ext'
    rw [Nat.zero_add, ← HTL.out, Sk.sub_end]
    simp
  rw [hall]
  clear hall
  go_wp2_with fail
  refine (readAt_range w1.heap.size g _ v _ t.data.toList.length f _ (A 4) w5 (HP2.out w5 HB5.out) (by rw [HTL.out]; omega) ⟨by omega, by omega⟩ (.inr (.inr (by rw [HTL.out]; omega))) ((HSS.out w5 (HB3.out.trans (HB5.out.mono HB3.out.size))).s.cell 4 (by decide))).mono ?_
  rintro e w6 ⟨rfl, hb6⟩
  have HB6 : Hid (Below w3.heap.size w3 w6) := HB5.out.trans (hb6.mono HB5.out.size)
  clear hb6
  have HGF : Hid (Sk.Good (Sk.fileOf t.data.toList bl evy) (Sk.fblk t.data.toList bl evy t.data.toList.length 0 0 3) t.data.toList.length ∧ (Sk.fblk t.data.toList bl evy t.data.toList.length 0 0 3).length ≤ 20000 ∧ (Sk.fileOf t.data.toList bl evy).length ≤ 65536) := by
    have hfl := Sk.fileOf_length t.data.toList bl evy hbl1
    have hop := Sk.openR_file t.data.toList bl evy hbl1 hbl2 (by rw [HTL.out]; omega) (by rw [HTL.out] at hfl; omega)
    have hG := Sk.openR_good (Sk.fileOf t.data.toList bl evy)
    have hlen := (Sk.openR_data (Sk.fileOf t.data.toList bl evy)).2
    rw [hop] at hG hlen
    refine ⟨hG, ?_, by rw [HTL.out] at hfl; omega⟩
    have := HTL.out
    have h2 : (Sk.fblk t.data.toList bl evy t.data.toList.length 0 0 3).length ≤ t.data.toList.length := hlen
    omega
  have HBL : Hid (Sk.badL (Sk.fileOf t.data.toList bl evy) (Sk.fblk t.data.toList bl evy t.data.toList.length 0 0 3) (Sk.fblk t.data.toList bl evy t.data.toList.length 0 0 3).length = []) := Sk.badL_file _ _ _ hbl1 hbl2 (by rw [HTL.out]; omega)
  go_wp2_with fail
  refine (check_any w1.heap.size g ⟨(Sk.fileOf t.data.toList bl evy).toArray⟩ v _ t.data.toList.length A w6 (HP2.out w6 HB6.out) (by rw [dl_str]; exact HGF.out.1) (by show (Sk.fileOf t.data.toList bl evy).toArray.size ≤ _; have := HGF.out.2.2; simp; omega) HGF.out.2.1 (HSS.out w6 (HB3.out.trans (HB6.out.mono HB3.out.size))) (HT.out.below (HB3.out.trans (HB6.out.mono HB3.out.size)))).mono ?_
  rw [dl_str, HBL.out]
  rintro e w7 ⟨l, rfl, hl, hg7⟩
  have HB7 : Hid (Below w.heap.size w w7) := (HB3.out.trans (HB6.out.mono HB3.out.size)).trans ((gr_nil_below hg7).mono (Nat.le_trans HB3.out.size HB6.out.size))
  obtain ⟨lo, lcap, el⟩ := hl.form
  rw [el]
  clear hl hg7 el
  have hex : t.extract f (f + c) = ⟨(Sk.sub t.data.toList f (f + c)).toArray⟩ := extract_sub t f (f + c)
  have g4 := (HS.out.below HB7.out).s.cell 4 (by decide)
  simp only [gv] at g4
  have hfi : (f : Int) + (c : Int) ≤ (t.size : Int) := by omega
  go_wp2_with fail
  go_ret
  exact ⟨rfl, HB7.out⟩
end Go.Proofs.YtafkpmjifgohcaaDoor
