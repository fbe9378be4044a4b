/- What was packed is read: the calls.
What Chunks yields of a file that was packed (pure).
The law Back, walked: whatever the input, it returns true.
bad: a second block that is not good is told, and the first one read.
Tokens that are not good (pure).
copied, of any length from any distance; the law Wrong, walked: whatever the input, it returns true.
The law Wrong, walked: whatever the input, it returns true.
Made: the calls that it makes. -/
import Derived.Test.YtafkpmjifgohcaaDoorAlongPart17
import Derived.Test.YtafkpmjifgohcaaDoorAlongPart14
import Derived.Test.YtafkpmjifgohcaaDoorAlongPart13
import Derived.Test.YtafkpmjifgohcaaDoorAlongPart18
import Derived.LaidHandle
import Derived.Test.YtafkpmjifgohcaaDoorAlongPart12
import Derived.Test.YtafkpmjifgohcaaDoorAlongPart15
namespace Go.Proofs.YtafkpmjifgohcaaDoor
open Go.RowKit Go.ChangeShapes Go.WideShapes

theorem Sk.fblk_in (s : List UInt8) (block every : Nat) (hb1 : 1 ≤ block) : ∀ f k r p j, j < (Sk.fblk s block every f k r p).length → (k + j) * block < s.length
  | 0, k, r, p, j, h => by simp [Sk.fblk] at h
  | f + 1, k, r, p, j, h => by
    rw [Sk.fblk] at h
    split at h
    · next hk =>
      cases j with
      | zero => exact hk
      | succ j =>
        have := Sk.fblk_in s block every hb1 f (k + 1) _ _ j (by simpa using h)
        rwa [show k + (j + 1) = k + 1 + j by omega]
    · simp at h

/-- The k-th block of what was packed. -/
theorem Sk.fblk_k (s : List UInt8) (block every : Nat) (hb1 : 1 ≤ block) (hb2 : block ≤ 1024) (hs : s.length ≤ 20000) (k : Nat) (hk : k < (Sk.fblk s block every s.length 0 0 3).length) :
    k * block < s.length ∧ (Sk.bk (Sk.fblk s block every s.length 0 0 3) k).frm = k * block ∧ (Sk.bk (Sk.fblk s block every s.length 0 0 3) k).size = Sk.endOf s block k - k * block ∧ (Sk.bk (Sk.fblk s block every s.length 0 0 3) k).fresh = (k % every == 0) := by
  have h0 := Sk.fblk_in s block every hb1 s.length 0 0 3 k hk
  rw [Nat.zero_add] at h0
  have hat := Sk.fblk_at s block every hb1 hb2 hs (Sk.fileOf s block every) s.length 0 0 [83, 75, 49] (by omega) rfl k (by rw [Nat.zero_add]; exact h0)
  rw [Nat.zero_add, show ([83, 75, 49] : List UInt8).length = 3 from rfl] at hat
  exact ⟨h0, hat.2.1, hat.2.2.1, hat.2.2.2.1⟩

theorem Sk.sub_sub (s : List UInt8) (a b x y : Nat) (h : a + y ≤ b) : Sk.sub (Sk.sub s a b) x y = Sk.sub s (a + x) (a + y) := by
  unfold Sk.sub
  rw [List.drop_take, List.drop_drop, List.take_take]
  congr 1
  omega

/-- Nothing of what was packed is bad. -/
theorem Sk.badL_file (s : List UInt8) (block every : Nat) (hb1 : 1 ≤ block) (hb2 : block ≤ 1024) (hs : s.length ≤ 20000) : Sk.badL (Sk.fileOf s block every) (Sk.fblk s block every s.length 0 0 3) (Sk.fblk s block every s.length 0 0 3).length = [] := by
  have := Sk.badL_goods (s := Sk.fileOf s block every) (bs := Sk.fblk s block every s.length 0 0 3) (a := 0) (Sk.fblk s block every s.length 0 0 3).length (fun i hi => by
    rw [Nat.zero_add]
    unfold Sk.isBad
    rw [Sk.upto_file s block every hb1 hb2 hs i (Sk.fblk_k s block every hb1 hb2 hs i hi).1])
  rwa [Nat.zero_add] at this

theorem extract_sub (s : ByteArray) (a b : Nat) : s.extract a b = ⟨(Sk.sub s.data.toList a b).toArray⟩ := by
  apply ByteArray.ext
  apply Array.ext'
  simp [Sk.sub, List.extract]

/-- What was packed is read, any part of it. -/
theorem readBack_any (B g : Nat) (t : List UInt8) (block every : Nat) (v : Value) (f c : Nat) (A : Nat → Addr) (w : World) (hb1 : 1 ≤ block) (hb2 : block ≤ 1024) (ht : t.length ≤ 5000)
    (hP : PFile w B g ⟨(Sk.fileOf t block every).toArray⟩ v (Sk.fblk t block every t.length 0 0 3) t.length) (hfc : f + c ≤ t.length) (hS : SentB w A w.heap.size) :
    Calls Tryd.prog 21 #[.pointer (some ⟨g, 0, none⟩), .int .i64 f, .int .i64 c] w fun e w' => e = .returned (.tuple #[.string ⟨(Sk.sub t f (f + c)).toArray⟩, .nilIface]) ∧ Below w.heap.size w w' := by
  rcases Nat.eq_zero_or_pos c with rfl | hc
  · refine (readAt_zero B g _ v _ t.length f w hP (by omega) (by omega)).mono ?_
    rintro e w' ⟨rfl, rfl⟩
    rw [Nat.add_zero, Sk.sub_self]
    exact ⟨rfl, Below.refl _ _⟩
  · have hop := Sk.openR_file t block every hb1 hb2 (by omega) (by have := Sk.fileOf_length t block every hb1; omega)
    have hG := Sk.openR_good (Sk.fileOf t block every)
    have hlen := (Sk.openR_data (Sk.fileOf t block every)).2
    rw [hop] at hG hlen
    dsimp only at hG hlen
    obtain ⟨k0, q0⟩ := hG.find f (by omega)
    obtain ⟨k1, q1⟩ := hG.find (f + c - 1) (by omega)
    have z0 := Sk.fblk_k t block every hb1 hb2 (by omega) k0 q0.1
    have z1 := Sk.fblk_k t block every hb1 hb2 (by omega) k1 q1.1
    have hlf := Sk.lastF_le (Sk.fblk t block every t.length 0 0 3) k0
    have zf := Sk.fblk_k t block every hb1 hb2 (by omega) (Sk.lastF (Sk.fblk t block every t.length 0 0 3) k0) (by have := q0.1; omega)
    have hkk : k0 ≤ k1 := by
      rcases Nat.lt_or_ge k1 k0 with h | h
      · have := hG.hi q1.2.2 k0 h q0.1
        omega
      · exact h
    have hD := Sk.dataN_file t block every hb1 hb2 (by omega) (Sk.lastF (Sk.fblk t block every t.length 0 0 3) k0) (k1 + 1 - Sk.lastF (Sk.fblk t block every t.length 0 0 3) k0) (fun j hj => Nat.lt_of_le_of_lt (Nat.mul_le_mul_right _ (by omega)) z1.1)
    have hsz : (⟨(Sk.fileOf t block every).toArray⟩ : ByteArray).size ≤ 65536 := by
      show (Sk.fileOf t block every).toArray.size ≤ _
      have := Sk.fileOf_length t block every hb1
      simp; omega
    refine (readAt_good B g ⟨(Sk.fileOf t block every).toArray⟩ v _ t.length f c k0 k1 _ (A 5) w hP (by show Sk.Good (Sk.fileOf t block every).toArray.toList _ _; rw [List.toList_toArray]; exact hG) hsz (by omega) hc hfc q0 q1 (hS.s.cell 5 (by decide)) (by show Sk.dataN (Sk.fileOf t block every).toArray.toList _ _ _ = _; rw [List.toList_toArray]; exact hD)).mono ?_
    rintro e w' ⟨rfl, hb⟩
    refine ⟨?_, hb⟩
    have hfl : (Sk.bk (Sk.fblk t block every t.length 0 0 3) (Sk.lastF (Sk.fblk t block every t.length 0 0 3) k0)).frm ≤ f := by
      have := hG.lo q0.1 q0.2.1 _ hlf
      omega
    rw [zf.2.1] at hfl ⊢
    have hend : f + c ≤ min ((Sk.lastF (Sk.fblk t block every t.length 0 0 3) k0 + (k1 + 1 - Sk.lastF (Sk.fblk t block every t.length 0 0 3) k0)) * block) t.length := by
      rw [show Sk.lastF (Sk.fblk t block every t.length 0 0 3) k0 + (k1 + 1 - Sk.lastF (Sk.fblk t block every t.length 0 0 3) k0) = k1 + 1 by omega, Nat.add_mul, Nat.one_mul]
      have h1 := q1.2.2
      rw [z1.2.1, z1.2.2.1] at h1
      have hE : Sk.endOf t block k1 ≤ k1 * block + block := by unfold Sk.endOf; omega
      omega
    rw [Sk.sub_sub _ _ _ _ _ (by omega)]
    generalize Sk.lastF (Sk.fblk t block every t.length 0 0 3) k0 * block = x at hfl ⊢
    rw [show x + (f - x) = f by omega, show x + (f - x + c) = f + c by omega]

/-- The type of errors, out of the row's list. -/
theorem Tryd.gET : Tryd.prog.globalNamed "errors.errorType" = some 7 := by kernel_rfl
theorem Tryd.rtT : (Tryd.prog.cutTypes.find? (·.1 == "internal/reflectlite.rtype")).map (·.2) = some 137 := by kernel_rfl
theorem Tryd.oneRow : ((List.range 201).filter fun t => Tryd.prog.rowNamed t [101, 114, 114, 111, 114]) = [23] := by kernel_rfl
theorem Tryd.typesSize : Tryd.prog.types.size = 201 := by kernel_rfl
theorem errT_of_eight {W : World} (h : laidMetH Tryd.prog eightLaid W) : ErrT W := by
  have h' : laidMet Tryd.prog sevenLaid W ∧ handlesMet Tryd.prog [("errors.errorType", Rows.laid_errors_errorType)] W := h
  obtain ⟨name, u, ty, e1, e2, e3, e4, e5⟩ := h'.2 _ (List.mem_singleton.2 rfl)
  have en : name = [101, 114, 114, 111, 114] := (Option.some.inj e1).symm
  subst en
  obtain rfl := Option.some.inj (Tryd.rtT.symm.trans e2)
  have hm : ty ∈ (List.range 201).filter fun t => Tryd.prog.rowNamed t [101, 114, 114, 111, 114] := List.mem_filter.2 ⟨List.mem_range.2 (by rw [← Tryd.typesSize]; exact e3), e4⟩
  rw [Tryd.oneRow] at hm
  obtain rfl := List.mem_singleton.1 hm
  have hh : typeHandle Tryd.prog 23 = .pointer (some ⟨8, 23, none⟩) := by kernel_rfl
  rw [hh] at e5
  unfold ErrT
  simpa using World.var?_cell Tryd.gET e5 0
end Go.Proofs.YtafkpmjifgohcaaDoor

namespace Go.Proofs.YtafkpmjifgohcaaDoor

/-- Where the chunk of number i begins. -/
def Sk.eAt (block len k p i : Nat) : Nat := if i = 0 then p else min ((k + i) * block) len

theorem Sk.sub_drop (s : List UInt8) (a b x : Nat) : (Sk.sub s a b).drop x = Sk.sub s (a + x) b := by
  unfold Sk.sub
  rw [List.drop_take, List.drop_drop, show b - a - x = b - (a + x) by omega]

theorem Sk.sub_join (s : List UInt8) (a b c : Nat) (h1 : a ≤ b) (h2 : b ≤ c) : Sk.sub s a b ++ Sk.sub s b c = Sk.sub s a c := by
  unfold Sk.sub
  rw [show c - a = (b - a) + (c - b) by omega, List.take_add, List.drop_drop, show a + (b - a) = b by omega]

section
variable (s : List UInt8) (block every : Nat)
theorem Sk.chunks_file (hb1 : 1 ≤ block) (hb2 : block ≤ 1024) (hs : s.length ≤ 20000) (k p : Nat) (hk : k < (Sk.fblk s block every s.length 0 0 3).length) (hp : k * block ≤ p) (hp2 : p < (k + 1) * block) :
    (Sk.chunks (Sk.fileOf s block every) (Sk.fblk s block every s.length 0 0 3) k p).length = (Sk.fblk s block every s.length 0 0 3).length - k ∧
    ∀ i, i < (Sk.fblk s block every s.length 0 0 3).length - k → (Sk.chunks (Sk.fileOf s block every) (Sk.fblk s block every s.length 0 0 3) k p)[i]? = some (k + i, Sk.sub s (Sk.eAt block s.length k p i) (Sk.eAt block s.length k p (i + 1))) := by
  have hin := fun j hj => Sk.fblk_in s block every hb1 s.length 0 0 3 j hj
  have hfk := fun j hj => Sk.fblk_k s block every hb1 hb2 hs j hj
  have hdf := fun first m h => Sk.dataN_file s block every hb1 hb2 hs first m h
  have hlf := Sk.lastF_le (Sk.fblk s block every s.length 0 0 3) k
  have hcl := Sk.chunks_length (s := Sk.fileOf s block every) (bs := Sk.fblk s block every s.length 0 0 3) k p
  have hcg := fun m D => Sk.chunks_get (s := Sk.fileOf s block every) (bs := Sk.fblk s block every s.length 0 0 3) (start := k) (p := p) (m := m) (D := D)
  generalize Sk.fblk s block every s.length 0 0 3 = bs at *
  generalize Sk.fileOf s block every = F at *
  generalize Sk.lastF bs k = fi at *
  have hall : ∀ j, j < bs.length - fi → (fi + j) * block < s.length := fun j hj => by
    have := hin (fi + j) (by omega)
    rwa [Nat.zero_add] at this
  refine ⟨?_, fun i hi => ?_⟩
  · rw [hcl, Sk.goodN_of_good (hdf fi (bs.length - fi) hall)]
    omega
  · have hd := hdf fi (k + i - fi + 1) (fun j hj => hall j (by omega))
    have h1 := hcg (k + i - fi) _ hd (by omega) (by omega)
    rw [show fi + (k + i - fi) - k = i by omega, show fi + (k + i - fi) = k + i by omega, Sk.sub_drop, show fi + (k + i - fi + 1) = k + i + 1 by omega, (hfk (k + i) (by omega)).2.1, (hfk fi (by omega)).2.1] at h1
    rw [h1]
    have h2 : (k + i) * block < s.length := by have := hin (k + i) (by omega); rwa [Nat.zero_add] at this
    have h3 : fi * block ≤ k * block := Nat.mul_le_mul_right _ hlf
    have h4 : fi * block ≤ (k + i) * block := Nat.mul_le_mul_right _ (by omega)
    have e1 : Sk.eAt block s.length k p (i + 1) = min ((k + i + 1) * block) s.length := by unfold Sk.eAt; rw [if_neg (by omega)]; rfl
    have e0 : fi * block + (max p ((k + i) * block) - fi * block) = Sk.eAt block s.length k p i := by
      unfold Sk.eAt
      split
      · next h => subst h; rw [Nat.add_zero] at h4 ⊢; omega
      · next h =>
        have : (k + 1) * block ≤ (k + i) * block := Nat.mul_le_mul_right _ (by omega)
        omega
    rw [e1, e0]

theorem Sk.eAt_le (k p i : Nat) (hp2 : p < (k + 1) * block) (hpl : p < s.length) : Sk.eAt block s.length k p i ≤ Sk.eAt block s.length k p (i + 1) ∧ p ≤ Sk.eAt block s.length k p i ∧ Sk.eAt block s.length k p i ≤ s.length := by
  have e1 : Sk.eAt block s.length k p (i + 1) = min ((k + i + 1) * block) s.length := by unfold Sk.eAt; rw [if_neg (by omega)]; rfl
  have h0 : (k + i) * block ≤ (k + i + 1) * block := Nat.mul_le_mul_right _ (by omega)
  have h1 : (k + 1) * block ≤ (k + i + 1) * block := Nat.mul_le_mul_right _ (by omega)
  rw [e1]
  unfold Sk.eAt
  split
  · omega
  · have : (k + 1) * block ≤ (k + i) * block := Nat.mul_le_mul_right _ (by omega)
    omega

theorem Sk.eAt_lt (hb1 : 1 ≤ block) (k p i : Nat) (hp2 : p < (k + 1) * block) (hpl : p < s.length) (hi : (k + i) * block < s.length) : Sk.eAt block s.length k p i < Sk.eAt block s.length k p (i + 1) := by
  have e1 : Sk.eAt block s.length k p (i + 1) = min ((k + i + 1) * block) s.length := by unfold Sk.eAt; rw [if_neg (by omega)]; rfl
  have h0 : (k + i + 1) * block = (k + i) * block + block := Nat.succ_mul _ _
  have h1 : (k + 1) * block ≤ (k + i + 1) * block := Nat.mul_le_mul_right _ (by omega)
  rw [e1]
  unfold Sk.eAt
  split
  · omega
  · omega
end
end Go.Proofs.YtafkpmjifgohcaaDoor

namespace Go.Proofs.YtafkpmjifgohcaaDoor
open Go.RowKit

set_option maxRecDepth 100000 in
set_option maxHeartbeats 1000000 in
theorem repeated_any (s : ByteArray) (n : Nat) (w : World) (hs : s.size ≤ 1000) (hn : n ≤ 1000) :
    Calls Tryd.prog 20 #[.string s, .int .i64 n] w fun e w' => ∃ t : ByteArray, t.size ≤ 4000 ∧ e = .returned (.string t) ∧ w' = w := by
  go_enter Tryd.func20, Tryd.ntmps20
  go_wp2
  go_loop [5, 6] (fun x i => ∃ k : Nat, ∃ t : ByteArray, k ≤ n ∧ t.size ≤ 4000 ∧ i = .int .i64 k ∧ x = .string t) (fun _ i => n - (intOf i).toNat)
  case atStart => exact ⟨0, ⟨#[]⟩, Nat.zero_le _, by decide, rfl, rfl⟩
  case round =>
    obtain ⟨k, t, hk, ht, rfl, rfl⟩ := hrel
    by_cases h1 : k < n
    · by_cases h2 : t.size < 3000
      · have hz : (t ++ s).size = t.size + s.size := ByteArray.size_append
        go_wp2
        go_round
        case rel => exact ⟨k + 1, t ++ s, by omega, by omega, by go_num, rfl⟩
        case measure => simp [intOf]; omega
      · go_wp2
        go_ret
        exact ⟨t, ht, rfl, rfl⟩
    · go_wp2
      go_ret
      exact ⟨t, ht, rfl, rfl⟩

set_option maxRecDepth 100000 in
set_option maxHeartbeats 8000000 in
theorem back_law (s : ByteArray) (times size every from' count : Int) (A : Nat → Addr) (w : World) (h1 : Fits times) (h2 : Fits size) (h3 : Fits every) (h4 : Fits from') (h5 : Fits count) (hS : SentB w A w.heap.size) (hT : ErrT w) :
    Calls Tryd.prog 5 #[.string s, .int .i64 times, .int .i64 size, .int .i64 every, .int .i64 from', .int .i64 count] w fun e w' => e = .returned (.bool true) ∧ Below w.heap.size w w' := by
  have HS : Hid (SentB w A w.heap.size) := hS
  have HT : Hid (ErrT w) := hT
  have H1 : Hid (Fits times) := h1
  have H2 : Hid (Fits size) := h2
  have H3 : Hid (Fits every) := h3
  have H4 : Hid (Fits from') := h4
  have H5 : Hid (Fits count) := h5
  have hes4 := fun W : World => eq_same (W := W) (A 4)
  clear hS hT h1 h2 h3 h4 h5
  go_enter Tryd.func5, Tryd.ntmps5
  go_wp2_with fail
  refine (awake_any A w HS.out.errs).mono ?_
  rintro e w1 ⟨rfl, hb1⟩
  have HB1 : Hid (Below w.heap.size w w1) := hb1
  clear hb1
  go_wp2_with fail
  refine (short_any s 300 w1 (by decide)).mono ?_
  rintro e w2 ⟨t0, ht0, rfl, hw2⟩
  rw [hw2]
  clear hw2 w2
  go_wp2_with fail
  refine (pickK_any times 20 w1 H1.out (by decide) (by decide)).mono ?_
  rintro e w2 ⟨k, hk, rfl, hw2⟩
  rw [hw2]
  clear hw2 w2
  go_wp2_with fail
  rw [show (1 : Int) + (k : Int) = ((1 + k : Nat) : Int) by omega]
  refine (repeated_any t0 (1 + k) w1 (by omega) (by omega)).mono ?_
  rintro e w2 ⟨t, ht, rfl, hw2⟩
  rw [hw2]
  clear hw2 w2
  go_wp2_with fail
  refine (pickK_any size 80 w1 H2.out (by decide) (by decide)).mono ?_
  rintro e w2 ⟨b, hb, rfl, hw2⟩
  rw [hw2]
  clear hw2 w2
  go_wp2_with fail
  refine (pickK_any every 6 w1 H3.out (by decide) (by decide)).mono ?_
  rintro e w2 ⟨ev, hev, rfl, hw2⟩
  rw [hw2]
  clear hw2 w2
  go_wp2_with fail
  rw [show (1 : Int) + (b : Int) = ((1 + b : Nat) : Int) by omega, show (1 : Int) + (ev : Int) = ((1 + ev : Nat) : Int) by omega]
  refine (fileK_any t (1 + b) (1 + ev) A w1 (HS.out.below HB1.out).errs (by omega) (by omega) (by omega) (by omega) (by omega)).mono ?_
  rintro e w3 ⟨hb3, g, v, rfl, hpf⟩
  have hbl1 : 1 ≤ 1 + b := by omega
  have hbl2 : 1 + b ≤ 1024 := by omega
  generalize 1 + b = bl at hbl1 hbl2 hpf ⊢
  generalize 1 + ev = evy at hpf ⊢
  have HB3 : Hid (Below w.heap.size w w3) := HB1.out.trans (hb3.mono HB1.out.size)
  have HPF : Hid (PFile w3 w1.heap.size g ⟨(Sk.fileOf t.data.toList bl evy).toArray⟩ v (Sk.fblk t.data.toList bl evy t.size 0 0 3) t.size) := hpf
  clear hb3 hpf hb hev hk ht0
  go_wp2_with fail
  rw [show (t.size : Int) + 1 = ((t.size + 1 : Nat) : Int) by omega]
  refine (pickK_any from' (t.size + 1) w3 H4.out (by omega) (by omega)).mono ?_
  rintro e w4 ⟨f, hf, rfl, hw4⟩
  rw [hw4]
  clear hw4 w4
  go_wp2_with fail
  rw [show (t.size : Int) - (f : Int) + 1 = ((t.size - f + 1 : Nat) : Int) by omega]
  refine (pickK_any count (t.size - f + 1) w3 H5.out (by omega) (by omega)).mono ?_
  rintro e w4 ⟨c, hc, rfl, hw4⟩
  rw [hw4]
  clear hw4 w4
  have hcf : f + c ≤ t.size := by omega
  have HTL : Hid (t.data.toList.length = t.size) := Array.length_toList
  have HPF2 : ∀ W, Below w3.heap.size w3 W → PFile W w1.heap.size g ⟨(Sk.fileOf t.data.toList bl evy).toArray⟩ v (Sk.fblk t.data.toList bl evy t.data.toList.length 0 0 3) t.data.toList.length := fun W hW => by
    rw [HTL.out]; exact HPF.out.below hW
  have HP2 : Hid (∀ W, Below w3.heap.size w3 W → PFile W w1.heap.size g ⟨(Sk.fileOf t.data.toList bl evy).toArray⟩ v (Sk.fblk t.data.toList bl evy t.data.toList.length 0 0 3) t.data.toList.length) := HPF2
  have HSS : Hid (∀ W, Below w.heap.size w W → SentB W A W.heap.size) := fun W hW => ⟨(HS.out.below hW).s, Nat.le_trans HS.out.l hW.size, fun i hi => Nat.lt_of_lt_of_le (HS.out.a i hi) hW.size⟩
  clear HPF2 hc hf
  go_wp2_with fail
  refine (readBack_any w1.heap.size g t.data.toList bl evy v f c A w3 hbl1 hbl2 (by rw [HTL.out]; omega) (HP2.out w3 (Below.refl _ _)) (by rw [HTL.out]; exact hcf) (HSS.out w3 HB3.out)).mono ?_
  rintro e w4 ⟨rfl, hb4⟩
  have HB4 : Hid (Below w3.heap.size w3 w4) := hb4
  clear hb4
  go_wp2_with fail
  rw [show (0 : Int) = ((0 : Nat) : Int) from rfl]
  refine (readBack_any w1.heap.size g t.data.toList bl evy v 0 t.size A w4 hbl1 hbl2 (by rw [HTL.out]; omega) (HP2.out w4 HB4.out) (by rw [HTL.out]; omega) (HSS.out w4 (HB3.out.trans (HB4.out.mono HB3.out.size)))).mono ?_
  rintro e w5 ⟨rfl, hb5⟩
  have HB5 : Hid (Below w3.heap.size w3 w5) := HB4.out.trans (hb5.mono HB4.out.size)
  clear hb5
  have hall : (⟨(Sk.sub t.data.toList 0 (0 + t.size)).toArray⟩ : ByteArray) = t := by
    apply ByteArray.ext
    apply Array.ext'
    rw [Nat.zero_add, ← HTL.out, Sk.sub_end]
    simp
  rw [hall]
  clear hall
  go_wp2_with fail
  refine (readAt_range w1.heap.size g _ v _ t.data.toList.length f _ (A 4) w5 (HP2.out w5 HB5.out) (by rw [HTL.out]; omega) ⟨by omega, by omega⟩ (.inr (.inr (by rw [HTL.out]; omega))) ((HSS.out w5 (HB3.out.trans (HB5.out.mono HB3.out.size))).s.cell 4 (by decide))).mono ?_
  rintro e w6 ⟨rfl, hb6⟩
  have HB6 : Hid (Below w3.heap.size w3 w6) := HB5.out.trans (hb6.mono HB5.out.size)
  clear hb6
  have HGF : Hid (Sk.Good (Sk.fileOf t.data.toList bl evy) (Sk.fblk t.data.toList bl evy t.data.toList.length 0 0 3) t.data.toList.length ∧ (Sk.fblk t.data.toList bl evy t.data.toList.length 0 0 3).length ≤ 20000 ∧ (Sk.fileOf t.data.toList bl evy).length ≤ 65536) := by
    have hfl := Sk.fileOf_length t.data.toList bl evy hbl1
    have hop := Sk.openR_file t.data.toList bl evy hbl1 hbl2 (by rw [HTL.out]; omega) (by rw [HTL.out] at hfl; omega)
    have hG := Sk.openR_good (Sk.fileOf t.data.toList bl evy)
    have hlen := (Sk.openR_data (Sk.fileOf t.data.toList bl evy)).2
    rw [hop] at hG hlen
    refine ⟨hG, ?_, by rw [HTL.out] at hfl; omega⟩
    have := HTL.out
    have h2 : (Sk.fblk t.data.toList bl evy t.data.toList.length 0 0 3).length ≤ t.data.toList.length := hlen
    omega
  have HBL : Hid (Sk.badL (Sk.fileOf t.data.toList bl evy) (Sk.fblk t.data.toList bl evy t.data.toList.length 0 0 3) (Sk.fblk t.data.toList bl evy t.data.toList.length 0 0 3).length = []) := Sk.badL_file _ _ _ hbl1 hbl2 (by rw [HTL.out]; omega)
  go_wp2_with fail
  refine (check_any w1.heap.size g ⟨(Sk.fileOf t.data.toList bl evy).toArray⟩ v _ t.data.toList.length A w6 (HP2.out w6 HB6.out) (by rw [dl_str]; exact HGF.out.1) (by show (Sk.fileOf t.data.toList bl evy).toArray.size ≤ _; have := HGF.out.2.2; simp; omega) HGF.out.2.1 (HSS.out w6 (HB3.out.trans (HB6.out.mono HB3.out.size))) (HT.out.below (HB3.out.trans (HB6.out.mono HB3.out.size)))).mono ?_
  rw [dl_str, HBL.out]
  rintro e w7 ⟨l, rfl, hl, hg7⟩
  have HB7 : Hid (Below w.heap.size w w7) := (HB3.out.trans (HB6.out.mono HB3.out.size)).trans ((gr_nil_below hg7).mono (Nat.le_trans HB3.out.size HB6.out.size))
  obtain ⟨lo, lcap, el⟩ := hl.form
  rw [el]
  clear hl hg7 el
  have hex : t.extract f (f + c) = ⟨(Sk.sub t.data.toList f (f + c)).toArray⟩ := extract_sub t f (f + c)
  have g4 := (HS.out.below HB7.out).s.cell 4 (by decide)
  simp only [gv] at g4
  have hfi : (f : Int) + (c : Int) ≤ (t.size : Int) := by omega
  go_wp2_with fail
  go_ret
  exact ⟨rfl, HB7.out⟩
end Go.Proofs.YtafkpmjifgohcaaDoor

namespace Go.Proofs.YtafkpmjifgohcaaDoor
open Go.RowKit

def Sk.abcd : List UInt8 := [97, 98, 99, 100]
def Sk.abP : List UInt8 := [3, 97, 98, 99, 100]
theorem Sk.ab_unp : Sk.unp Sk.abP 4 [] = some Sk.abcd := by kernel_rfl

set_option maxRecDepth 100000 in
set_option maxHeartbeats 4000000 in
theorem badK_any (n : Nat) (p : ByteArray) (fr : Bool) (A : Nat → Addr) (w : World) (hS : SentB w A w.heap.size) (hT : ErrT w) (h1 : 1 ≤ n) (h2 : n ≤ 1024) (hp : p.size ≤ 30000) (hu : Sk.unp p.data.toList n (if fr then [] else Sk.abcd) = none) :
    Calls Tryd.prog 27 #[.int .i64 n, .string p, .bool fr] w fun e w' => e = .returned (.bool true) ∧ Below w.heap.size w w' := by
  have hpl : p.data.toList.length = p.size := Array.length_toList
  have hop := Sk.openR_two (n1 := 4) (P1 := Sk.abP) (fr := fr) (n2 := n) (P2 := p.data.toList) (by decide) (by decide) h1 h2 (by decide) (by omega)
  have hG := Sk.openR_good (Sk.twoF 4 Sk.abP fr n p.data.toList)
  rw [hop] at hG
  have hu0 := Sk.upto_two0 (n1 := 4) (n2 := n) (P1 := Sk.abP) (P2 := p.data.toList) (fr := fr) (by decide) (by decide)
  have hu1 := Sk.upto_two1 (n1 := 4) (n2 := n) (P1 := Sk.abP) (P2 := p.data.toList) (fr := fr) (by decide) h2 (by decide) (by omega) Sk.ab_unp
  rw [Sk.ab_unp] at hu0
  rw [hu] at hu1
  have hd1 : Sk.dataN (Sk.twoF 4 Sk.abP fr n p.data.toList) (Sk.twoB 4 Sk.abP fr n) 0 1 = .good Sk.abcd := by
    rw [Sk.dataN_step (show Sk.dataN _ _ 0 0 = .good [] from rfl), Nat.zero_add, hu0]
    rfl
  have hd2 : Sk.dataN (Sk.twoF 4 Sk.abP fr n p.data.toList) (Sk.twoB 4 Sk.abP fr n) 0 2 = .bad 7 1 := by
    rw [Sk.dataN_step hd1, Nat.zero_add, hu1]
    rfl
  have hbl : Sk.badL (Sk.twoF 4 Sk.abP fr n p.data.toList) (Sk.twoB 4 Sk.abP fr n) 2 = [1] := by
    rw [Sk.badL_bad (by unfold Sk.isBad; rw [hu1]; rfl), Sk.badL_good (by unfold Sk.isBad; rw [hu0]; rfl)]
    rfl
  have hlen : (Sk.twoF 4 Sk.abP fr n p.data.toList).length = 26 + p.size := by
    rw [Sk.twoF_length, hpl]
    show 21 + 5 + p.size = _
    omega
  have hcat : ((⟨#[83, 75, 49]⟩ : ByteArray) ++ (⟨(Sk.hdr true 4 5 (Sk.sumOf Sk.abP) ++ Sk.abP).toArray⟩ : ByteArray)) ++ (⟨(Sk.hdr fr n p.size (Sk.sumOf p.data.toList) ++ p.data.toList).toArray⟩ : ByteArray) = ⟨(Sk.twoF 4 Sk.abP fr n p.data.toList).toArray⟩ := by
    rw [show (⟨#[83, 75, 49]⟩ : ByteArray) = ⟨([83, 75, 49] : List UInt8).toArray⟩ from rfl, cat_str, cat_str, ← hpl, List.append_assoc]
    rfl
  have HCAT : Hid (((⟨#[83, 75, 49]⟩ : ByteArray) ++ (⟨(Sk.hdr true 4 5 (Sk.sumOf Sk.abP) ++ Sk.abP).toArray⟩ : ByteArray)) ++ (⟨(Sk.hdr fr n p.size (Sk.sumOf p.data.toList) ++ p.data.toList).toArray⟩ : ByteArray) = ⟨(Sk.twoF 4 Sk.abP fr n p.data.toList).toArray⟩) := hcat
  have hz1 : (⟨(Sk.hdr true 4 5 (Sk.sumOf Sk.abP) ++ Sk.abP).toArray⟩ : ByteArray).size = 14 := by
    show (Sk.hdr true 4 5 (Sk.sumOf Sk.abP) ++ Sk.abP).toArray.size = 14
    simp [Sk.hdr_length, Sk.abP]
  have hz2 : (⟨(Sk.hdr fr n p.size (Sk.sumOf p.data.toList) ++ p.data.toList).toArray⟩ : ByteArray).size = 9 + p.size := by
    show (Sk.hdr fr n p.size (Sk.sumOf p.data.toList) ++ p.data.toList).toArray.size = _
    simp [Sk.hdr_length, hpl]
  generalize hF : Sk.twoF 4 Sk.abP fr n p.data.toList = F at *
  have hbs : Sk.twoB 4 Sk.abP fr n = [⟨0, 4, 3, true⟩, ⟨4, n, 17, fr⟩] := rfl
  rw [hbs] at *
  have HOP : Hid (Sk.openR F = (0, [⟨0, 4, 3, true⟩, ⟨4, n, 17, fr⟩], 4 + n)) := hop
  have HG : Hid (Sk.Good (⟨F.toArray⟩ : ByteArray).data.toList [⟨0, 4, 3, true⟩, ⟨4, n, 17, fr⟩] (4 + n)) := by rw [dl_str]; exact hG
  have HD1 : Hid (Sk.dataN (⟨F.toArray⟩ : ByteArray).data.toList [⟨0, 4, 3, true⟩, ⟨4, n, 17, fr⟩] 0 1 = .good Sk.abcd) := by rw [dl_str]; exact hd1
  have HD2 : Hid (Sk.dataN (⟨F.toArray⟩ : ByteArray).data.toList [⟨0, 4, 3, true⟩, ⟨4, n, 17, fr⟩] 0 2 = .bad 7 1) := by rw [dl_str]; exact hd2
  have HBL : Hid (Sk.badL (⟨F.toArray⟩ : ByteArray).data.toList [⟨0, 4, 3, true⟩, ⟨4, n, 17, fr⟩] 2 = [1]) := by rw [dl_str]; exact hbl
  have HFZ : Hid ((⟨F.toArray⟩ : ByteArray).size = 26 + p.size) := by show F.toArray.size = _; simp [hlen]
  have HS : Hid (SentB w A w.heap.size) := hS
  have HT : Hid (ErrT w) := hT
  have hes6 := fun W : World => eq_same (W := W) (A 6)
  clear hop hG hu0 hu1 hd1 hd2 hbl hlen hF hbs hS hT hu hcat
  go_enter Tryd.func27, Tryd.ntmps27
  go_wp2_with fail
  refine (runK_any ⟨#[97, 98, 99, 100]⟩ w (by decide) (by decide)).mono ?_
  rw [show (⟨(UInt8.ofNat ((⟨#[97, 98, 99, 100]⟩ : ByteArray).size - 1) :: (⟨#[97, 98, 99, 100]⟩ : ByteArray).data.toList).toArray⟩ : ByteArray) = ⟨Sk.abP.toArray⟩ from rfl]
  rintro e w1 ⟨rfl, hb1⟩
  have HB1 : Hid (Below w.heap.size w w1) := hb1
  clear hb1
  go_wp2_with fail
  refine (blockK_any true 4 ⟨Sk.abP.toArray⟩ w1 (by decide) (by decide)).mono ?_
  rw [show (⟨Sk.abP.toArray⟩ : ByteArray).size = 5 from rfl, show (⟨Sk.abP.toArray⟩ : ByteArray).data.toList = Sk.abP from rfl]
  rintro e w2 ⟨rfl, hb2⟩
  have HB2 : Hid (Below w.heap.size w w2) := HB1.out.trans (hb2.mono HB1.out.size)
  clear hb2
  go_wp2_with fail
  refine (blockK_any fr n p w2 (by omega) (by omega)).mono ?_
  rintro e w3 ⟨rfl, hb3⟩
  have HB3 : Hid (Below w.heap.size w w3) := HB2.out.trans (hb3.mono HB2.out.size)
  clear hb3
  go_wp2_with fail
  rw [HCAT.out]
  clear hz1 hz2
  refine (open_any ⟨F.toArray⟩ A w3 (HS.out.below HB3.out).errs (by rw [HFZ.out]; omega)).mono ?_
  rw [dl_str, HOP.out]
  rintro e w4 ⟨hb4, _, r0, _⟩
  obtain ⟨g, v, rfl, hpf⟩ := r0 rfl
  have HB4 : Hid (Below w.heap.size w w4) := HB3.out.trans (hb4.mono HB3.out.size)
  have HPF : Hid (PFile w4 w3.heap.size g ⟨F.toArray⟩ v [⟨0, 4, 3, true⟩, ⟨4, n, 17, fr⟩] (4 + n)) := hpf
  have HSS : Hid (∀ W, Below w.heap.size w W → SentB W A W.heap.size) := fun W hW => ⟨(HS.out.below hW).s, Nat.le_trans HS.out.l hW.size, fun i hi => Nat.lt_of_lt_of_le (HS.out.a i hi) hW.size⟩
  clear hb4 r0 hpf
  go_wp2_with fail
  refine (readAt_good w3.heap.size g ⟨F.toArray⟩ v [⟨0, 4, 3, true⟩, ⟨4, n, 17, fr⟩] (4 + n) 0 4 0 0 Sk.abcd (A 5) w4 HPF.out HG.out (by rw [HFZ.out]; omega) (by simp) (by decide) (by omega) ⟨by simp, by show (0 : Nat) ≤ 0; decide, by show (0 : Nat) < 0 + 4; decide⟩ ⟨by simp, by show (0 : Nat) ≤ 0 + 4 - 1; decide, by show 0 + 4 - 1 < 0 + 4; decide⟩ ((HSS.out w4 HB4.out).s.cell 5 (by decide)) HD1.out).mono ?_
  rintro e w5 ⟨he, hb5⟩
  have he2 : e = .returned (.tuple #[.string ⟨#[97, 98, 99, 100]⟩, .nilIface]) := he
  subst he2
  have HB5 : Hid (Below w.heap.size w w5) := HB4.out.trans (hb5.mono HB4.out.size)
  have HP5 : Hid (PFile w5 w3.heap.size g ⟨F.toArray⟩ v [⟨0, 4, 3, true⟩, ⟨4, n, 17, fr⟩] (4 + n)) := HPF.out.below hb5
  clear hb5 he
  go_wp2_with fail
  refine (readAt_bad w3.heap.size g ⟨F.toArray⟩ v [⟨0, 4, 3, true⟩, ⟨4, n, 17, fr⟩] (4 + n) 3 2 0 1 7 1 A w5 HP5.out HG.out (by rw [HFZ.out]; omega) (by simp) (by decide) (by omega) ⟨by simp, by show (0 : Nat) ≤ 3; decide, by show 3 < 0 + 4; decide⟩ ⟨by simp, by show 4 ≤ 3 + 2 - 1; decide, by show 3 + 2 - 1 < 4 + n; omega⟩ (HSS.out w5 HB5.out) HD2.out).mono ?_
  rintro e w6 ⟨vb, rfl, hbad, hb6⟩
  have HB6 : Hid (Below w.heap.size w w6) := HB5.out.trans (hb6.mono HB5.out.size)
  have HBAD6 : Hid (BadErr w6 w5.heap.size vb 1 (A 6)) := hbad
  have HP6 : Hid (PFile w6 w3.heap.size g ⟨F.toArray⟩ v [⟨0, 4, 3, true⟩, ⟨4, n, 17, fr⟩] (4 + n)) := HP5.out.below hb6
  obtain ⟨q, p', ff, hvb, _⟩ := hbad
  subst hvb
  clear hb6
  go_wp2_with fail
  refine (check_any w3.heap.size g ⟨F.toArray⟩ v [⟨0, 4, 3, true⟩, ⟨4, n, 17, fr⟩] (4 + n) A w6 HP6.out HG.out (by rw [HFZ.out]; omega) (by simp) (HSS.out w6 HB6.out) (HT.out.below HB6.out)).mono ?_
  rw [show ([⟨0, 4, 3, true⟩, ⟨4, n, 17, fr⟩] : List Sk.Blk).length = 2 from rfl, HBL.out]
  rintro e w7 ⟨l, rfl, hl, hg7⟩
  have HB7 : Hid (Below w6.heap.size w6 w7) := gr_nil_below hg7
  have HBAD7 : Hid (BadErr w7 w5.heap.size (.iface 151 (.pointer (some ⟨q, 0, none⟩))) 1 (A 6)) := HBAD6.out.below HB7.out (Nat.le_refl _)
  have HL7 : Hid (Rw w7 1 l 1 [.int .i64 1]) := hl
  obtain ⟨lo, lcap, el⟩ := hl.form
  have el' : l = .slice lo 1 lcap := el
  subst el'
  clear hl hg7 el
  go_wp2_with fail
  refine (as_badErr _ 1 (A 6) _ w7 _ HBAD7.out (HT.out.below (HB6.out.trans (HB7.out.mono HB6.out.size))) ((Below.refl _ _).alloc (Nat.le_refl _) _) (heap_alloc_new _ _)).mono ?_
  rintro e w8 ⟨rfl, hb8, p2, hp2, c0, c1, c2⟩
  have HB8 : Hid (Below w.heap.size w w8) := (HB6.out.trans (HB7.out.mono HB6.out.size)).trans (hb8.mono (Nat.le_trans HB6.out.size HB7.out.size))
  have HL8 : Hid (Rw w8 1 (.slice lo 1 lcap) 1 [.int .i64 1]) := HL7.out.below hb8
  clear hb8
  obtain ⟨gl, rfl⟩ := HL8.out.some_of (by decide)
  have x0 := HL8.out.cell 0 (by decide)
  simp at x0
  have g6 := (HS.out.below HB8.out).s.cell 6 (by decide)
  simp only [gv] at g6
  have c1' : w8.cell? ⟨p2, 0, none⟩ = some (.int .i64 1) := c1
  clear c1
  go_wp2_with fail
  go_quiet (fail)
  go_wp2
  go_ret
  exact ⟨rfl, below_drewN HB8.out _⟩
end Go.Proofs.YtafkpmjifgohcaaDoor

namespace Go.Proofs.YtafkpmjifgohcaaDoor

theorem Sk.tag_nat (n : Nat) (h1 : 4 ≤ n) (h2 : n ≤ 131) : (UInt8.ofNat (128 + n - 4)).toNat = 128 + n - 4 := UInt8.toNat_ofNat_of_lt' (by show 128 + n - 4 < 256; omega)

/-- A copy that is cut off. -/
theorem Sk.unp_short (P : List UInt8) (n size : Nat) (o : List UInt8) (h1 : 4 ≤ n) (h2 : n ≤ 131) (hP : P.length = 1 ∨ P.length = 2) (h0 : Sk.gt P 0 = UInt8.ofNat (128 + n - 4)) : Sk.unp P size o = none := by
  unfold Sk.unp
  have ht := Sk.tag_nat n h1 h2
  rw [Sk.unpN, if_pos (by omega), h0, ht, if_neg (by omega), if_pos (by omega)]

theorem Sk.copy_gt (d n : Nat) : Sk.gt (Sk.copyOf d n) 0 = UInt8.ofNat (128 + n - 4) := rfl
theorem Sk.copy_len (d n : Nat) : (Sk.copyOf d n).length = 3 := by simp [Sk.copyOf, Sk.le_length]
theorem Sk.copy_num (d n : Nat) (hd : d < 65536) : Sk.numAt (Sk.copyOf d n) 1 2 = d := by
  have := Sk.numAt_cons (UInt8.ofNat (128 + n - 4)) (Sk.le d 2) 2 0
  rw [Sk.numAt_le] at this
  rw [show Sk.copyOf d n = UInt8.ofNat (128 + n - 4) :: Sk.le d 2 from rfl, this]
  exact Nat.mod_eq_of_lt hd

/-- One copy. -/
theorem Sk.unp_copy (d n size : Nat) (o : List UInt8) (h1 : 4 ≤ n) (h2 : n ≤ 131) (hd : d < 65536) : Sk.unp (Sk.copyOf d n) size o = if d < 1 ∨ o.length < d then none else if size ≠ n then none else some (Sk.cpy d n o) := by
  have ht := Sk.tag_nat n h1 h2
  have hl := Sk.copy_len d n
  unfold Sk.unp
  rw [Sk.unpN, if_pos (by omega), Sk.copy_gt, ht, if_neg (by omega), if_neg (by omega), show 0 + 1 = 1 from rfl, Sk.copy_num d n hd]
  by_cases hb : d < 1 ∨ o.length < d
  · rw [if_pos hb, if_pos hb]
  · rw [if_neg hb, if_neg hb, show 128 + n - 4 - 128 + 4 = n by omega]
    by_cases hs : size < n
    · rw [if_pos (by omega), if_pos (by omega)]
    · rw [if_neg (by omega), hl, Sk.unpN, if_neg (by omega), Sk.cpy_length]
      by_cases e : size = n
      · rw [if_pos (by omega), if_neg (by omega)]
      · rw [if_neg (by omega), if_pos e]

theorem Sk.wrong1 : Sk.unp [2, 97, 98] 3 Sk.abcd = none := by kernel_rfl
theorem Sk.wrong2 (n : Nat) (h1 : 4 ≤ n) (h2 : n ≤ 131) : Sk.unp [UInt8.ofNat (128 + n - 4)] n [] = none := Sk.unp_short _ n n [] h1 h2 (.inl rfl) rfl
theorem Sk.wrong3 (n : Nat) (h1 : 4 ≤ n) (h2 : n ≤ 131) : Sk.unp [UInt8.ofNat (128 + n - 4), 1] n Sk.abcd = none := Sk.unp_short _ n n _ h1 h2 (.inr rfl) rfl
theorem Sk.wrong4 (n : Nat) (h1 : 4 ≤ n) (h2 : n ≤ 131) : Sk.unp (Sk.copyOf 0 n) n Sk.abcd = none := by
  rw [Sk.unp_copy 0 n n _ h1 h2 (by decide), if_pos (.inl (by decide))]
theorem Sk.wrong5 (n f : Nat) (h1 : 4 ≤ n) (h2 : n ≤ 131) (h3 : 5 ≤ f) (h4 : f < 65536) : Sk.unp (Sk.copyOf f n) n Sk.abcd = none := by
  rw [Sk.unp_copy f n n _ h1 h2 h4, if_pos (.inr (by show 4 < f; omega))]
theorem Sk.wrong6 (n : Nat) (h1 : 4 ≤ n) (h2 : n ≤ 131) : Sk.unp ([1, 97, 98] ++ Sk.copyOf 3 n) (n + 2) [] = none := by
  have ht := Sk.tag_nat n h1 h2
  have hl : ([1, 97, 98] ++ Sk.copyOf 3 n).length = 6 := by rw [List.length_append, Sk.copy_len]; rfl
  unfold Sk.unp
  rw [hl, Sk.unpN, hl, if_pos (by decide), show (Sk.gt ([1, 97, 98] ++ Sk.copyOf 3 n) 0).toNat = 1 from rfl, if_pos (by decide), if_neg (by decide), if_neg (by simp)]
  rw [Sk.unpN, hl, if_pos (by decide), show 0 + 2 + 1 = 3 from rfl, show Sk.gt ([1, 97, 98] ++ Sk.copyOf 3 n) 3 = UInt8.ofNat (128 + n - 4) from rfl, ht, if_neg (by omega), if_neg (by decide), if_pos (.inr (by
    rw [show Sk.numAt ([1, 97, 98] ++ Sk.copyOf 3 n) (3 + 1) 2 = 3 from rfl, List.nil_append, show Sk.sub ([1, 97, 98] ++ Sk.copyOf 3 n) (0 + 1) 3 = [97, 98] from rfl]
    decide))]
theorem Sk.wrong7 (n m : Nat) (h1 : 4 ≤ n) (h2 : n ≤ 131) (h3 : 1 ≤ m) : Sk.unp (Sk.copyOf 4 n) (n + m) Sk.abcd = none := by
  rw [Sk.unp_copy 4 n (n + m) _ h1 h2 (by decide), if_neg (by decide), if_pos (by omega)]
theorem Sk.wrong8 (n : Nat) (h1 : 4 ≤ n) (h2 : n ≤ 131) : Sk.unp (Sk.copyOf 4 n) (n - 1) Sk.abcd = none := by
  rw [Sk.unp_copy 4 n (n - 1) _ h1 h2 (by decide), if_neg (by decide), if_pos (by omega)]
theorem Sk.wrong9 : Sk.unp [] 5 Sk.abcd = none := by kernel_rfl
theorem Sk.wrong10 : Sk.unp ([1, 97, 98] ++ [0, 99]) 2 Sk.abcd = none := by kernel_rfl
end Go.Proofs.YtafkpmjifgohcaaDoor

namespace Go.Proofs.YtafkpmjifgohcaaDoor
open Go.RowKit

theorem twoC (g d : Nat) (b : UInt8) (W : World) (hd : d < 65536) (h : W.cell? ⟨g, 0, none⟩ = some (.int .u8 b.toNat)) :
    Calls Tryd.prog 44 #[.int .i64 d] W fun e w' => e = .returned (.string ⟨(Sk.le d 2).toArray⟩) ∧ Below W.heap.size W w' ∧ (convert 53 9 (.slice (some ⟨g, 0, none⟩) 1 1)).run Tryd.prog w' = .ok (.string ⟨#[b]⟩) w' :=
  (two_any d W hd).mono fun _ w' ⟨he, hb⟩ => ⟨he, hb, conv1 g w' b ((hb.cell (p := ⟨g, 0, none⟩) (cell_lt h)).trans h)⟩

set_option maxRecDepth 100000 in
set_option maxHeartbeats 1000000 in
theorem copiedK_any (n d : Nat) (w : World) (h1 : 4 ≤ n) (h2 : n ≤ 131) (hd : d < 65536) :
    Calls Tryd.prog 26 #[.int .i64 n, .int .i64 d] w fun e w' => e = .returned (.string ⟨(Sk.copyOf d n).toArray⟩) ∧ Below w.heap.size w w' := by
  obtain ⟨b, hb⟩ : ∃ b, b = UInt8.ofNat (128 + n - 4) := ⟨_, rfl⟩
  have hbn : (b.toNat : Int) = 128 + (n : Int) - 4 := by rw [hb, Sk.tag_nat n h1 h2]; omega
  have HBN : Hid ((b.toNat : Int) = 128 + (n : Int) - 4) := hbn
  have HE : Hid ((⟨#[b]⟩ : ByteArray) ++ (⟨(Sk.le d 2).toArray⟩ : ByteArray) = ⟨(Sk.copyOf d n).toArray⟩) := by
    show _ = _
    rw [show (⟨#[b]⟩ : ByteArray) = ⟨[b].toArray⟩ from rfl, cat_str, hb]
    rfl
  have hz : (⟨(Sk.le d 2).toArray⟩ : ByteArray).size = 2 := by show (Sk.le d 2).toArray.size = 2; simp [Sk.le_length]
  have hcv : ∀ W : World, (convert 53 9 (.slice (some ⟨W.heap.size, 0, none⟩) 1 1)).run Tryd.prog (W.alloc (.cells #[.int .u8 (128 + (n : Int) - 4)] 5)).drew = .ok (.string ⟨#[b]⟩) (W.alloc (.cells #[.int .u8 (128 + (n : Int) - 4)] 5)).drew := fun W => by
    rw [← hbn]
    exact conv1 W.heap.size _ b (by simp)
  have hcv2 : ∀ W : World, (convert 53 9 (.slice (some ⟨W.heap.size, 0, none⟩) 1 1)).run Tryd.prog (W.alloc (.cells #[.int .u8 (128 + (n : Int) - 4)] 5)) = .ok (.string ⟨#[b]⟩) (W.alloc (.cells #[.int .u8 (128 + (n : Int) - 4)] 5)) := fun W => by
    rw [← hbn]
    exact conv1 W.heap.size _ b (by simp)
  have k1 : (0 : Int) ≤ 128 + (n : Int) - 4 := by omega
  have k2 : 128 + (n : Int) - 4 < 256 := by omega
  have u1 : IntKind.i64.wrap (128 + (n : Int)) = 128 + (n : Int) := wrap_fits _ ⟨by omega, by omega⟩
  have u2 : IntKind.i64.wrap (128 + (n : Int) - 4) = 128 + (n : Int) - 4 := wrap_fits _ ⟨by omega, by omega⟩
  have u3 : IntKind.u8.wrap (128 + (n : Int) - 4) = 128 + (n : Int) - 4 := by rw [IntKind.wrap_u8]; omega
  clear hbn hb
  go_enter Tryd.func26, Tryd.ntmps26
  go_wp2_with fail
  go_region_with (first | (go_at_call 44; refine Calls.mono (twoC w.heap.size d b _ hd ?hq) ?_; (case hq => (rw [HBN.out]; simp; done)); rintro e w1 ⟨rfl, hb1, hcv3⟩; have HB1 : Hid (Below w.heap.size w w1) := (by first | exact ((Below.refl _ _).drew).trans (hb1.mono (by simp)) | exact (((Below.refl _ _).alloc (Nat.le_refl _) _).drew).trans (hb1.mono (by simp)) | exact ((Below.refl _ _).alloc (Nat.le_refl _) _).trans (hb1.mono (by simp)) | exact hb1); clear hb1) | (go_at_call 44; refine (two_any d _ hd).mono ?_; rintro e w1 ⟨rfl, hb1⟩; have HB1 : Hid (Below w.heap.size w w1) := (by first | exact ((Below.refl _ _).drew).trans (hb1.mono (by simp)) | exact (((Below.refl _ _).alloc (Nat.le_refl _) _).drew).trans (hb1.mono (by simp)) | exact ((Below.refl _ _).alloc (Nat.le_refl _) _).trans (hb1.mono (by simp)) | exact hb1); clear hb1))
  all_goals
    go_wp2
    go_ret
    rw [HE.out]
    exact ⟨rfl, by first | exact HB1.out | exact HB1.out.alloc HB1.out.size _⟩
end Go.Proofs.YtafkpmjifgohcaaDoor

namespace Go.Proofs.YtafkpmjifgohcaaDoor
open Go.RowKit

theorem badK_at (z : Int) (n : Nat) (hz : z = n) (p : ByteArray) (L : List UInt8) (fr : Bool) (A : Nat → Addr) (w0 w : World) (hS : ∀ W, Below w0.heap.size w0 W → SentB W A W.heap.size) (hT : ErrT w0) (hB : Below w0.heap.size w0 w) (h1 : 1 ≤ n) (h2 : n ≤ 1024) (hp : p = ⟨L.toArray⟩) (hl : L.length ≤ 30000) (hu : Sk.unp L n (if fr then [] else Sk.abcd) = none) :
    Calls Tryd.prog 27 #[.int .i64 z, .string p, .bool fr] w fun e w' => e = .returned (.bool true) ∧ Below w0.heap.size w0 w' := by
  subst hz hp
  refine (badK_any n ⟨L.toArray⟩ fr A w (hS w hB) (hT.below hB) h1 h2 (by show L.toArray.size ≤ 30000; simpa using hl) (by rw [dl_str]; exact hu)).mono ?_
  rintro e w' ⟨rfl, hb⟩
  exact ⟨rfl, hB.trans (hb.mono hB.size)⟩

theorem copiedK_at (z y : Int) (n d : Nat) (hz : z = n) (hy : y = d) (w0 w : World) (hB : Below w0.heap.size w0 w) (h1 : 4 ≤ n) (h2 : n ≤ 131) (hd : d < 65536) :
    Calls Tryd.prog 26 #[.int .i64 z, .int .i64 y] w fun e w' => e = .returned (.string ⟨(Sk.copyOf d n).toArray⟩) ∧ Below w0.heap.size w0 w' := by
  subst hz hy
  refine (copiedK_any n d w h1 h2 hd).mono ?_
  rintro e w' ⟨rfl, hb⟩
  exact ⟨rfl, hB.trans (hb.mono hB.size)⟩

theorem runK_at (s : ByteArray) (L : List UInt8) (hs : s.data.toList = L) (w0 w : World) (hB : Below w0.heap.size w0 w) (h1 : 1 ≤ s.size) (h2 : s.size ≤ 128) :
    Calls Tryd.prog 24 #[.string s] w fun e w' => e = .returned (.string ⟨(UInt8.ofNat (L.length - 1) :: L).toArray⟩) ∧ Below w0.heap.size w0 w' := by
  have hl : s.data.toList.length = s.size := Array.length_toList
  refine (runK_any s w h1 h2).mono ?_
  rintro e w' ⟨rfl, hb⟩
  rw [← hs, hl]
  exact ⟨rfl, hB.trans (hb.mono hB.size)⟩

set_option maxRecDepth 100000 in
set_option maxHeartbeats 8000000 in
theorem wrong_law (c0 c1 c2 : Int) (A : Nat → Addr) (w : World) (h1 : Fits c0) (h2 : Fits c1) (h3 : Fits c2) (hS : SentB w A w.heap.size) (hT : ErrT w) :
    Calls Tryd.prog 9 #[.int .i64 c0, .int .i64 c1, .int .i64 c2] w fun e w' => e = .returned (.bool true) ∧ Below w.heap.size w w' := by
  have HS : Hid (SentB w A w.heap.size) := hS
  have HT : Hid (ErrT w) := hT
  have H1 : Hid (Fits c0) := h1
  have H2 : Hid (Fits c1) := h2
  have H3 : Hid (Fits c2) := h3
  have HSS : Hid (∀ W, Below w.heap.size w W → SentB W A W.heap.size) := fun W hW => ⟨(HS.out.below hW).s, Nat.le_trans HS.out.l hW.size, fun i hi => Nat.lt_of_lt_of_le (HS.out.a i hi) hW.size⟩
  clear hS hT h1 h2 h3
  go_enter Tryd.func9, Tryd.ntmps9
  go_wp2_with fail
  refine (awake_any A w HS.out.errs).mono ?_
  rintro e w1 ⟨rfl, hb1⟩
  have HB1 : Hid (Below w.heap.size w w1) := hb1
  clear hb1
  go_wp2_with fail
  refine (pickK_any c0 128 w1 H1.out (by decide) (by decide)).mono ?_
  rintro e w2 ⟨n0, hn0, rfl, hw2⟩
  rw [hw2]
  clear hw2 w2
  go_wp2_with fail
  refine (pickK_any c1 60000 w1 H2.out (by decide) (by decide)).mono ?_
  rintro e w2 ⟨f0, hf0, rfl, hw2⟩
  rw [hw2]
  clear hw2 w2
  go_wp2_with fail
  refine (pickK_any c2 100 w1 H3.out (by decide) (by decide)).mono ?_
  rintro e w2 ⟨m0, hm0, rfl, hw2⟩
  rw [hw2]
  clear hw2 w2
  go_wp2_with fail
  rw [show (4 : Int) + (n0 : Int) = ((4 + n0 : Nat) : Int) by omega, show (9 : Int) + (f0 : Int) = ((9 + f0 : Nat) : Int) by omega, show (1 : Int) + (m0 : Int) = ((1 + m0 : Nat) : Int) by omega]
  have n1 : 4 ≤ 4 + n0 := by omega
  have n2 : 4 + n0 ≤ 131 := by omega
  have f1 : 5 ≤ 9 + f0 := by omega
  have f2 : 9 + f0 < 65536 := by omega
  have m1 : 1 ≤ 1 + m0 := by omega
  have m2 : 1 + m0 ≤ 100 := by omega
  clear hn0 hf0 hm0
  generalize 4 + n0 = n at *
  generalize 9 + f0 = far at *
  generalize 1 + m0 = more at *
  obtain ⟨b, hb⟩ : ∃ b, b = UInt8.ofNat (128 + n - 4) := ⟨_, rfl⟩
  have hbn : (b.toNat : Int) = 128 + (n : Int) - 4 := by rw [hb, Sk.tag_nat n n1 n2]; omega
  have HBE : Hid (b = UInt8.ofNat (128 + n - 4)) := hb
  have hcv1 : ∀ W : World, (convert 53 9 (.slice (some ⟨W.heap.size, 0, none⟩) 1 1)).run Tryd.prog (W.alloc (.cells #[.int .u8 (128 + (n : Int) - 4)] 5)) = .ok (.string ⟨#[b]⟩) (W.alloc (.cells #[.int .u8 (128 + (n : Int) - 4)] 5)) := fun W => by
    rw [← hbn]
    exact conv1 W.heap.size _ b (by simp)
  have hcv2 : ∀ W : World, (convert 53 9 (.slice (some ⟨W.heap.size, 0, none⟩) 2 2)).run Tryd.prog (W.alloc (.cells #[.int .u8 (128 + (n : Int) - 4), .int .u8 1] 5)) = .ok (.string ⟨[UInt8.ofNat (128 + n - 4), 1].toArray⟩) (W.alloc (.cells #[.int .u8 (128 + (n : Int) - 4), .int .u8 1] 5)) := fun W => conv2 W (128 + n - 4) 1 (by omega) (by decide) _ _ (by omega) rfl
  have u1 : IntKind.i64.wrap (128 + (n : Int)) = 128 + (n : Int) := wrap_fits _ ⟨by omega, by omega⟩
  have u2 : IntKind.i64.wrap (128 + (n : Int) - 4) = 128 + (n : Int) - 4 := wrap_fits _ ⟨by omega, by omega⟩
  have u3 : IntKind.u8.wrap (128 + (n : Int) - 4) = 128 + (n : Int) - 4 := by rw [IntKind.wrap_u8]; omega
  have HZ : Hid (∀ d, (⟨(Sk.copyOf d n).toArray⟩ : ByteArray).size = 3) := fun d => by show (Sk.copyOf d n).toArray.size = 3; simp [Sk.copy_len]
  clear hb hbn
  refine (badK_at _ 3 rfl _ [2, 97, 98] false A w _ HSS.out HT.out HB1.out (by decide) (by decide) rfl (by decide) Sk.wrong1).mono ?_
  rintro e w2 ⟨rfl, hb2⟩
  have HB2 : Hid (Below w.heap.size w w2) := hb2
  clear hb2
  go_wp2_with fail
  refine (badK_at _ n rfl _ [b] true A w _ HSS.out HT.out (HB2.out.alloc HB2.out.size _) (by omega) (by omega) rfl (by show 1 ≤ 30000; decide) (by rw [HBE.out]; exact Sk.wrong2 n n1 n2)).mono ?_
  rintro e w3 ⟨rfl, hb3⟩
  have HB3 : Hid (Below w.heap.size w w3) := hb3
  clear hb3
  go_wp2_with fail
  refine (badK_at _ n rfl _ [UInt8.ofNat (128 + n - 4), 1] false A w _ HSS.out HT.out (HB3.out.alloc HB3.out.size _) (by omega) (by omega) rfl (by show 2 ≤ 30000; decide) (Sk.wrong3 n n1 n2)).mono ?_
  rintro e w4 ⟨rfl, hb4⟩
  have HB4 : Hid (Below w.heap.size w w4) := hb4
  clear hb4
  go_wp2_with fail
  refine (copiedK_at _ _ n 0 rfl rfl w _ HB4.out n1 n2 (by decide)).mono ?_
  rintro e w5 ⟨rfl, hb5⟩
  have HB5 : Hid (Below w.heap.size w w5) := hb5
  clear hb5
  go_wp2_with fail
  refine (badK_at _ n rfl _ (Sk.copyOf 0 n) false A w _ HSS.out HT.out HB5.out (by omega) (by omega) rfl (by rw [Sk.copy_len]; decide) (Sk.wrong4 n n1 n2)).mono ?_
  rintro e w6 ⟨rfl, hb6⟩
  have HB6 : Hid (Below w.heap.size w w6) := hb6
  clear hb6
  go_wp2_with fail
  refine (copiedK_at _ _ n far rfl rfl w _ HB6.out n1 n2 f2).mono ?_
  rintro e w7 ⟨rfl, hb7⟩
  have HB7 : Hid (Below w.heap.size w w7) := hb7
  clear hb7
  go_wp2_with fail
  refine (badK_at _ n rfl _ (Sk.copyOf far n) false A w _ HSS.out HT.out HB7.out (by omega) (by omega) rfl (by rw [Sk.copy_len]; decide) (Sk.wrong5 n far n1 n2 f1 f2)).mono ?_
  rintro e w8 ⟨rfl, hb8⟩
  have HB8 : Hid (Below w.heap.size w w8) := hb8
  clear hb8
  go_wp2_with fail
  have hz3 := HZ.out 3
  have hz2 : (⟨(UInt8.ofNat (([97, 98] : List UInt8).length - 1) :: [97, 98]).toArray⟩ : ByteArray).size = 3 := rfl
  have hz1 : (⟨(UInt8.ofNat (([99] : List UInt8).length - 1) :: [99]).toArray⟩ : ByteArray).size = 2 := rfl
  refine (runK_at _ [97, 98] rfl w _ HB8.out (by decide) (by decide)).mono ?_
  rintro e w9 ⟨rfl, hb9⟩
  have HB9 : Hid (Below w.heap.size w w9) := hb9
  clear hb9
  go_wp2_with fail
  refine (copiedK_at _ _ n 3 rfl rfl w _ HB9.out n1 n2 (by decide)).mono ?_
  rintro e w10 ⟨rfl, hb10⟩
  have HB10 : Hid (Below w.heap.size w w10) := hb10
  clear hb10
  go_wp2_with fail
  refine (badK_at _ (n + 2) (by omega) _ ([1, 97, 98] ++ Sk.copyOf 3 n) true A w _ HSS.out HT.out HB10.out (by omega) (by omega) (cat_str _ _) (by rw [List.length_append, Sk.copy_len]; decide) (Sk.wrong6 n n1 n2)).mono ?_
  rintro e w11 ⟨rfl, hb11⟩
  have HB11 : Hid (Below w.heap.size w w11) := hb11
  clear hb11
  go_wp2_with fail
  refine (copiedK_at _ _ n 4 rfl rfl w _ HB11.out n1 n2 (by decide)).mono ?_
  rintro e w12 ⟨rfl, hb12⟩
  have HB12 : Hid (Below w.heap.size w w12) := hb12
  clear hb12
  go_wp2_with fail
  refine (badK_at _ (n + more) (by omega) _ (Sk.copyOf 4 n) false A w _ HSS.out HT.out HB12.out (by omega) (by omega) rfl (by rw [Sk.copy_len]; decide) (Sk.wrong7 n more n1 n2 m1)).mono ?_
  rintro e w13 ⟨rfl, hb13⟩
  have HB13 : Hid (Below w.heap.size w w13) := hb13
  clear hb13
  go_wp2_with fail
  refine (copiedK_at _ _ n 4 rfl rfl w _ HB13.out n1 n2 (by decide)).mono ?_
  rintro e w14 ⟨rfl, hb14⟩
  have HB14 : Hid (Below w.heap.size w w14) := hb14
  clear hb14
  go_wp2_with fail
  refine (badK_at _ (n - 1) (by omega) _ (Sk.copyOf 4 n) false A w _ HSS.out HT.out HB14.out (by omega) (by omega) rfl (by rw [Sk.copy_len]; decide) (Sk.wrong8 n n1 n2)).mono ?_
  rintro e w15 ⟨rfl, hb15⟩
  have HB15 : Hid (Below w.heap.size w w15) := hb15
  clear hb15
  go_wp2_with fail
  refine (badK_at _ 5 rfl _ [] false A w _ HSS.out HT.out HB15.out (by decide) (by decide) rfl (by decide) Sk.wrong9).mono ?_
  rintro e w16 ⟨rfl, hb16⟩
  have HB16 : Hid (Below w.heap.size w w16) := hb16
  clear hb16
  go_wp2_with fail
  refine (runK_at _ [97, 98] rfl w _ HB16.out (by decide) (by decide)).mono ?_
  rintro e w17 ⟨rfl, hb17⟩
  have HB17 : Hid (Below w.heap.size w w17) := hb17
  clear hb17
  go_wp2_with fail
  refine (runK_at _ [99] rfl w _ HB17.out (by decide) (by decide)).mono ?_
  rintro e w18 ⟨rfl, hb18⟩
  have HB18 : Hid (Below w.heap.size w w18) := hb18
  clear hb18
  go_wp2_with fail
  refine (badK_at _ 2 rfl _ ([1, 97, 98] ++ [0, 99]) false A w _ HSS.out HT.out HB18.out (by decide) (by decide) (cat_str _ _) (by decide) Sk.wrong10).mono ?_
  rintro e w19 ⟨rfl, hb19⟩
  have HB19 : Hid (Below w.heap.size w w19) := hb19
  clear hb19
  go_wp2_with fail
  go_ret
  exact ⟨rfl, HB19.out⟩
end Go.Proofs.YtafkpmjifgohcaaDoor

namespace Go.Proofs.YtafkpmjifgohcaaDoor
open Go.RowKit

/-- A slice of numbers that is handed in. -/
def IntsAt (w : World) (a : Option Addr) (n : Nat) : Prop := 0 < n → ∃ b off, a = some ⟨b, off, none⟩ ∧ b < w.heap.size ∧ ∀ i, i < n → ∃ k, w.cell? ⟨b, off + i, none⟩ = some (.int .i64 k) ∧ Fits k

theorem start_size (s0 : ByteArray) (h : s0.size ≤ 100) : 5 ≤ ((⟨#[115, 116, 97, 114, 116]⟩ : ByteArray) ++ s0).size ∧ ((⟨#[115, 116, 97, 114, 116]⟩ : ByteArray) ++ s0).size ≤ 105 := by
  rw [ByteArray.size_append, show (⟨#[115, 116, 97, 114, 116]⟩ : ByteArray).size = 5 from rfl]
  omega

theorem dl_len (t : ByteArray) : t.data.toList.length = t.size := Array.length_toList
theorem str_dl (t : ByteArray) : (⟨t.data.toList.toArray⟩ : ByteArray) = t := by
  apply ByteArray.ext
  simp
theorem app_dl (t u : ByteArray) : (t ++ u).data.toList = t.data.toList ++ u.data.toList := by
  rw [ByteArray.data_append]
  simp
theorem empty_dl (q : ByteArray) : q.toList.isEmpty = true ↔ q.data.toList = [] := by
  rw [ByteArray.toList_eq, List.isEmpty_iff]

/-- One byte more. -/
theorem cpy_step (u t : ByteArray) (d m a : Nat) (hu : u.data.toList = Sk.cpy d m t.data.toList) (hd : 1 ≤ d) (hdt : d ≤ t.size) (ha : a + d = u.size) : (u ++ u.extract a (a + 1)).data.toList = Sk.cpy d (m + 1) t.data.toList := by
  have hl := dl_len u
  rw [Sk.cpy_last d hd m _ (by rw [dl_len]; exact hdt), ← hu, app_dl, hl, extract_sub, dl_str, Sk.sub_succ _ a a (Nat.le_refl _) (Nat.lt_of_lt_of_eq (show a < u.size by omega) hl.symm), Sk.sub_self, List.nil_append, show u.size - d = a by omega]

theorem pickK_at (c z : Int) (n : Nat) (w : World) (hz : z = n) (hc : Fits c) (hn : 0 < n) (hn2 : n ≤ 1000000000000000) :
    Calls Tryd.prog 15 #[.int .i64 c, .int .i64 z] w fun e w' => ∃ k : Nat, k < n ∧ e = .returned (.int .i64 k) ∧ w' = w := by
  subst hz
  exact pickK_any c n w hc hn hn2

theorem blockK_at (z : Int) (n : Nat) (hz : z = n) (f : Bool) (p : ByteArray) (w0 w : World) (hB : Below w0.heap.size w0 w) (hn : n < 65536) (hp : p.size < 65536) :
    Calls Tryd.prog 25 #[.bool f, .int .i64 z, .string p] w fun e w' => (∃ Y : ByteArray, Y = ⟨(Sk.blkB f n p.data.toList).toArray⟩ ∧ Y.size = 9 + p.size ∧ e = .returned (.string Y)) ∧ Below w0.heap.size w0 w' := by
  subst hz
  refine (blockK_any f n p w hn hp).mono ?_
  rintro e w' ⟨rfl, hb⟩
  refine ⟨⟨_, rfl, ?_, ?_⟩, hB.trans (hb.mono hB.size)⟩
  · show (Sk.blkB f n p.data.toList).toArray.size = _
    rw [List.size_toArray, Sk.blkB_length, dl_len]
  · rw [Sk.blkB, dl_len]

/-- The file that Made puts together. -/
structure MadeF (d1 t : ByteArray) (fr : Bool) (F : ByteArray) : Prop where
  size : F.size ≤ 3000
  opn : Sk.openR F.data.toList = (0, [⟨0, d1.size, 3, true⟩, ⟨d1.size, t.size - d1.size, 13 + d1.size, fr⟩], t.size)
  dat : Sk.dataN F.data.toList [⟨0, d1.size, 3, true⟩, ⟨d1.size, t.size - d1.size, 13 + d1.size, fr⟩] 0 2 = .good t.data.toList
  dat1 : Sk.dataN F.data.toList [⟨0, d1.size, 3, true⟩, ⟨d1.size, t.size - d1.size, 13 + d1.size, fr⟩] 1 1 = .good (t.data.toList.drop d1.size)
  one : 1 ≤ d1.size
  more : d1.size < t.size
  len : t.size ≤ 2000

theorem madeF_of {d1 t q X Y : ByteArray} {fr : Bool} (h : Sk.Mk fr d1.data.toList t.data.toList q.data.toList) (hq : q.data.toList ≠ []) (h1 : d1.size ≤ 105)
    (hX : X = ⟨(Sk.blkB true d1.data.toList.length (UInt8.ofNat (d1.data.toList.length - 1) :: d1.data.toList)).toArray⟩) (hY : Y = ⟨(Sk.blkB fr (t.size - d1.size) q.data.toList).toArray⟩) : MadeF d1 t fr (((⟨#[83, 75, 49]⟩ : ByteArray) ++ X) ++ Y) := by
  have l1 := dl_len d1
  have l2 := dl_len t
  have e : ((⟨#[83, 75, 49]⟩ : ByteArray) ++ X) ++ Y = ⟨(Sk.twoF d1.data.toList.length (UInt8.ofNat (d1.data.toList.length - 1) :: d1.data.toList) fr (t.data.toList.length - d1.data.toList.length) q.data.toList).toArray⟩ := by
    rw [hX, hY, show (⟨#[83, 75, 49]⟩ : ByteArray) = ⟨([83, 75, 49] : List UInt8).toArray⟩ from rfl, cat_str, cat_str, ← l1, ← l2, List.append_assoc]
    rfl
  have hd := h.data hq (by omega)
  have ho := Sk.openR_two (n1 := d1.data.toList.length) (P1 := UInt8.ofNat (d1.data.toList.length - 1) :: d1.data.toList) (fr := fr) (n2 := t.data.toList.length - d1.data.toList.length) (P2 := q.data.toList) h.one (by omega) (by have := h.ne hq; omega) (by have := h.len; omega) (by rw [List.length_cons]; omega) (by have := h.ql; have := h.len; omega)
  have hb : Sk.twoB d1.data.toList.length (UInt8.ofNat (d1.data.toList.length - 1) :: d1.data.toList) fr (t.data.toList.length - d1.data.toList.length) = [⟨0, d1.size, 3, true⟩, ⟨d1.size, t.size - d1.size, 13 + d1.size, fr⟩] := by
    unfold Sk.twoB
    rw [l1, l2, List.length_cons, l1, show 12 + (d1.size + 1) = 13 + d1.size by omega]
  have hlen := h.len
  have hql := h.ql
  have hne := h.ne hq
  rw [l1, l2] at hlen hql hne
  rw [hb] at ho hd
  refine ⟨?_, ?_, ?_, ?_, by have := h.one; omega, hne, by omega⟩
  · rw [e]
    show (Sk.twoF _ _ _ _ _).toArray.size ≤ _
    rw [List.size_toArray, Sk.twoF_length, List.length_cons]
    omega
  · rw [e, dl_str, ho]
    rw [show d1.data.toList.length + (t.data.toList.length - d1.data.toList.length) = t.size by omega]
  · rw [e, dl_str]; exact hd.1
  · rw [e, dl_str]; have := hd.2; rw [l1] at this ⊢; exact this

section
variable {d1 t : ByteArray} {fr : Bool} {F : ByteArray} {B g : Nat} {v : Value} {w : World}
theorem MadeF.good (h : MadeF d1 t fr F) : Sk.Good F.data.toList [⟨0, d1.size, 3, true⟩, ⟨d1.size, t.size - d1.size, 13 + d1.size, fr⟩] t.size := by
  have := Sk.openR_good F.data.toList
  rw [h.opn] at this
  exact this

/-- All of it is read. -/
theorem made_read1 (h : MadeF d1 t fr F) (hP : PFile w B g F v [⟨0, d1.size, 3, true⟩, ⟨d1.size, t.size - d1.size, 13 + d1.size, fr⟩] t.size) (a5 : Addr) (h5 : w.cell? ⟨5, 0, none⟩ = some (.iface 170 (.pointer (some a5)))) (w0 : World) (hB : Below w0.heap.size w0 w) :
    Calls Tryd.prog 21 #[.pointer (some ⟨g, 0, none⟩), .int .i64 0, .int .i64 t.size] w fun e w' => e = .returned (.tuple #[.string t, .nilIface]) ∧ Below w.heap.size w w' ∧ Below w0.heap.size w0 w' := by
  have h1 := h.one
  have h2 := h.more
  have hs := h.size
  refine (readAt_good B g F v _ t.size 0 t.size 0 1 t.data.toList a5 w hP h.good (by omega) (by simp) (by omega) (by omega) ⟨by simp, Nat.le_refl _, by show 0 < 0 + d1.size; omega⟩ ⟨by simp, by show d1.size ≤ 0 + t.size - 1; omega, by show 0 + t.size - 1 < d1.size + (t.size - d1.size); omega⟩ h5 h.dat).mono ?_
  rintro e w' ⟨he, hb⟩
  refine ⟨?_, hb, hB.trans (hb.mono hB.size)⟩
  rw [he]
  have : Sk.sub t.data.toList (0 - (Sk.bk [⟨0, d1.size, 3, true⟩, ⟨d1.size, t.size - d1.size, 13 + d1.size, fr⟩] (Sk.lastF [⟨0, d1.size, 3, true⟩, ⟨d1.size, t.size - d1.size, 13 + d1.size, fr⟩] 0)).frm) (0 - (Sk.bk [⟨0, d1.size, 3, true⟩, ⟨d1.size, t.size - d1.size, 13 + d1.size, fr⟩] (Sk.lastF [⟨0, d1.size, 3, true⟩, ⟨d1.size, t.size - d1.size, 13 + d1.size, fr⟩] 0)).frm + t.size) = t.data.toList := by
    rw [Nat.zero_sub, Nat.zero_add, ← dl_len t, Sk.sub_end]
    rfl
  rw [this, str_dl]

theorem made_read2 (h : MadeF d1 t fr F) (hP : PFile w B g F v [⟨0, d1.size, 3, true⟩, ⟨d1.size, t.size - d1.size, 13 + d1.size, fr⟩] t.size) (a5 : Addr) (h5 : w.cell? ⟨5, 0, none⟩ = some (.iface 170 (.pointer (some a5)))) (w0 : World) (hB : Below w0.heap.size w0 w) (z : Int) (hz : z = ((t.size - d1.size : Nat) : Int)) :
    Calls Tryd.prog 21 #[.pointer (some ⟨g, 0, none⟩), .int .i64 d1.size, .int .i64 z] w fun e w' => e = .returned (.tuple #[.string (t.extract d1.size t.size), .nilIface]) ∧ Below w.heap.size w w' ∧ Below w0.heap.size w0 w' := by
  subst hz
  have h1 := h.one
  have h2 := h.more
  have hs := h.size
  have hl := dl_len t
  have hdrop : Sk.sub t.data.toList d1.size t.size = t.data.toList.drop d1.size := by
    unfold Sk.sub
    rw [List.take_of_length_le (by rw [List.length_drop]; omega)]
  rw [extract_sub, hdrop]
  cases fr with
  | true =>
    have hlf : Sk.lastF [⟨0, d1.size, 3, true⟩, ⟨d1.size, t.size - d1.size, 13 + d1.size, true⟩] 1 = 1 := rfl
    refine (readAt_good B g F v _ t.size d1.size (t.size - d1.size) 1 1 (t.data.toList.drop d1.size) a5 w hP h.good (by omega) (by simp) (by omega) (by omega) ⟨by simp, Nat.le_refl _, by show d1.size < d1.size + (t.size - d1.size); omega⟩ ⟨by simp, by show d1.size ≤ d1.size + (t.size - d1.size) - 1; omega, by show d1.size + (t.size - d1.size) - 1 < d1.size + (t.size - d1.size); omega⟩ h5 (by rw [hlf]; exact h.dat1)).mono ?_
    rintro e w' ⟨he, hb⟩
    refine ⟨?_, hb, hB.trans (hb.mono hB.size)⟩
    rw [he, hlf]
    have : Sk.sub (t.data.toList.drop d1.size) (d1.size - (Sk.bk [⟨0, d1.size, 3, true⟩, ⟨d1.size, t.size - d1.size, 13 + d1.size, true⟩] 1).frm) (d1.size - (Sk.bk [⟨0, d1.size, 3, true⟩, ⟨d1.size, t.size - d1.size, 13 + d1.size, true⟩] 1).frm + (t.size - d1.size)) = t.data.toList.drop d1.size := by
      show Sk.sub (t.data.toList.drop d1.size) (d1.size - d1.size) (d1.size - d1.size + (t.size - d1.size)) = _
      unfold Sk.sub
      rw [Nat.sub_self, List.drop_zero, List.take_of_length_le (by rw [List.length_drop]; omega)]
    rw [this]
  | false =>
    have hlf : Sk.lastF [⟨0, d1.size, 3, true⟩, ⟨d1.size, t.size - d1.size, 13 + d1.size, false⟩] 1 = 0 := rfl
    refine (readAt_good B g F v _ t.size d1.size (t.size - d1.size) 1 1 t.data.toList a5 w hP h.good (by omega) (by simp) (by omega) (by omega) ⟨by simp, Nat.le_refl _, by show d1.size < d1.size + (t.size - d1.size); omega⟩ ⟨by simp, by show d1.size ≤ d1.size + (t.size - d1.size) - 1; omega, by show d1.size + (t.size - d1.size) - 1 < d1.size + (t.size - d1.size); omega⟩ h5 (by rw [hlf]; exact h.dat)).mono ?_
    rintro e w' ⟨he, hb⟩
    refine ⟨?_, hb, hB.trans (hb.mono hB.size)⟩
    rw [he, hlf]
    have : Sk.sub t.data.toList (d1.size - (Sk.bk [⟨0, d1.size, 3, true⟩, ⟨d1.size, t.size - d1.size, 13 + d1.size, false⟩] 0).frm) (d1.size - (Sk.bk [⟨0, d1.size, 3, true⟩, ⟨d1.size, t.size - d1.size, 13 + d1.size, false⟩] 0).frm + (t.size - d1.size)) = t.data.toList.drop d1.size := by
      show Sk.sub t.data.toList (d1.size - 0) (d1.size - 0 + (t.size - d1.size)) = _
      rw [Nat.sub_zero, show d1.size + (t.size - d1.size) = t.size by omega, hdrop]
    rw [this]
end
end Go.Proofs.YtafkpmjifgohcaaDoor
