/- What was packed is read: the calls. -/
import Derived.Test.YtafkpmjifgohcaaDoorLocalPart14
import Derived.Test.YtafkpmjifgohcaaDoorLocalPart11
import Derived.Test.YtafkpmjifgohcaaDoorLocalPart15
import Derived.Test.YtafkpmjifgohcaaDoorLocalPart10
import Derived.Test.YtafkpmjifgohcaaDoorLocalPart16
import Derived.LaidHandle
namespace Go.Proofs.YtafkpmjifgohcaaDoor
open Go.RowKit Go.ChangeShapes Go.WideShapes

theorem Sk.fblk_in (s : List UInt8) (block every : Nat) (hb1 : 1 ≤ block) : ∀ f k r p j, j < (Sk.fblk s block every f k r p).length → (k + j) * block < s.length
  | 0, k, r, p, j, h => by simp [Sk.fblk] at h
  | f + 1, k, r, p, j, h => by
    rw [Sk.fblk] at h
    split at h
    · next hk =>
      cases j with
      | zero => exact hk
      | succ j =>
        have := Sk.fblk_in s block every hb1 f (k + 1) _ _ j (by simpa using h)
        rwa [show k + (j + 1) = k + 1 + j by omega]
    · simp at h

/-- The k-th block of what was packed. -/
theorem Sk.fblk_k (s : List UInt8) (block every : Nat) (hb1 : 1 ≤ block) (hb2 : block ≤ 1024) (hs : s.length ≤ 20000) (k : Nat) (hk : k < (Sk.fblk s block every s.length 0 0 3).length) :
    k * block < s.length ∧ (Sk.bk (Sk.fblk s block every s.length 0 0 3) k).frm = k * block ∧ (Sk.bk (Sk.fblk s block every s.length 0 0 3) k).size = Sk.endOf s block k - k * block ∧ (Sk.bk (Sk.fblk s block every s.length 0 0 3) k).fresh = (k % every == 0) := by
  have h0 := Sk.fblk_in s block every hb1 s.length 0 0 3 k hk
  rw [Nat.zero_add] at h0
  have hat := Sk.fblk_at s block every hb1 hb2 hs (Sk.fileOf s block every) s.length 0 0 [83, 75, 49] (by omega) rfl k (by rw [Nat.zero_add]; exact h0)
  rw [Nat.zero_add, show ([83, 75, 49] : List UInt8).length = 3 from rfl] at hat
  exact ⟨h0, hat.2.1, hat.2.2.1, hat.2.2.2.1⟩

theorem Sk.sub_sub (s : List UInt8) (a b x y : Nat) (h : a + y ≤ b) : Sk.sub (Sk.sub s a b) x y = Sk.sub s (a + x) (a + y) := by
  unfold Sk.sub
  rw [List.drop_take, List.drop_drop, List.take_take]
  congr 1
  omega

/-- Nothing of what was packed is bad. -/
theorem Sk.badL_file (s : List UInt8) (block every : Nat) (hb1 : 1 ≤ block) (hb2 : block ≤ 1024) (hs : s.length ≤ 20000) : Sk.badL (Sk.fileOf s block every) (Sk.fblk s block every s.length 0 0 3) (Sk.fblk s block every s.length 0 0 3).length = [] := by
  have := Sk.badL_goods (s := Sk.fileOf s block every) (bs := Sk.fblk s block every s.length 0 0 3) (a := 0) (Sk.fblk s block every s.length 0 0 3).length (fun i hi => by
    rw [Nat.zero_add]
    unfold Sk.isBad
    rw [Sk.upto_file s block every hb1 hb2 hs i (Sk.fblk_k s block every hb1 hb2 hs i hi).1])
  rwa [Nat.zero_add] at this

theorem extract_sub (s : ByteArray) (a b : Nat) : s.extract a b = ⟨(Sk.sub s.data.toList a b).toArray⟩ := by
  apply ByteArray.ext
  apply Array.ext'
  simp [Sk.sub, List.extract]

/-- What was packed is read, any part of it. -/
theorem readBack_any (B g : Nat) (t : List UInt8) (block every : Nat) (v : Value) (f c : Nat) (A : Nat → Addr) (w : World) (hb1 : 1 ≤ block) (hb2 : block ≤ 1024) (ht : t.length ≤ 5000)
    (hP : PFile w B g ⟨(Sk.fileOf t block every).toArray⟩ v (Sk.fblk t block every t.length 0 0 3) t.length) (hfc : f + c ≤ t.length) (hS : SentB w A w.heap.size) :
    Calls Tryd.prog 21 #[.pointer (some ⟨g, 0, none⟩), .int .i64 f, .int .i64 c] w fun e w' => e = .returned (.tuple #[.string ⟨(Sk.sub t f (f + c)).toArray⟩, .nilIface]) ∧ Below w.heap.size w w' := by
  rcases Nat.eq_zero_or_pos c with rfl | hc
  · refine (readAt_zero B g _ v _ t.length f w hP (by omega) (by omega)).mono ?_
    rintro e w' ⟨rfl, rfl⟩
    rw [Nat.add_zero, Sk.sub_self]
    exact ⟨rfl, Below.refl _ _⟩
  · have hop := Sk.openR_file t block every hb1 hb2 (by omega) (by have := Sk.fileOf_length t block every hb1; omega)
    have hG := Sk.openR_good (Sk.fileOf t block every)
    have hlen := (Sk.openR_data (Sk.fileOf t block every)).2
    rw [hop] at hG hlen
    dsimp only at hG hlen
    obtain ⟨k0, q0⟩ := hG.find f (by omega)
    obtain ⟨k1, q1⟩ := hG.find (f + c - 1) (by omega)
    have z0 := Sk.fblk_k t block every hb1 hb2 (by omega) k0 q0.1
    have z1 := Sk.fblk_k t block every hb1 hb2 (by omega) k1 q1.1
    have hlf := Sk.lastF_le (Sk.fblk t block every t.length 0 0 3) k0
    have zf := Sk.fblk_k t block every hb1 hb2 (by omega) (Sk.lastF (Sk.fblk t block every t.length 0 0 3) k0) (by have := q0.1; omega)
    have hkk : k0 ≤ k1 := by
      rcases Nat.lt_or_ge k1 k0 with h | h
      · have := hG.hi q1.2.2 k0 h q0.1
        omega
      · exact h
    have hD := Sk.dataN_file t block every hb1 hb2 (by omega) (Sk.lastF (Sk.fblk t block every t.length 0 0 3) k0) (k1 + 1 - Sk.lastF (Sk.fblk t block every t.length 0 0 3) k0) (fun j hj => Nat.lt_of_le_of_lt (Nat.mul_le_mul_right _ (by omega)) z1.1)
    have hsz : (⟨(Sk.fileOf t block every).toArray⟩ : ByteArray).size ≤ 65536 := by
      show (Sk.fileOf t block every).toArray.size ≤ _
      have := Sk.fileOf_length t block every hb1
      simp; omega
    refine (readAt_good B g ⟨(Sk.fileOf t block every).toArray⟩ v _ t.length f c k0 k1 _ (A 5) w hP (by show Sk.Good (Sk.fileOf t block every).toArray.toList _ _; rw [List.toList_toArray]; exact hG) hsz (by omega) hc hfc q0 q1 (hS.s.cell 5 (by decide)) (by show Sk.dataN (Sk.fileOf t block every).toArray.toList _ _ _ = _; rw [List.toList_toArray]; exact hD)).mono ?_
    rintro e w' ⟨rfl, hb⟩
    refine ⟨?_, hb⟩
    have hfl : (Sk.bk (Sk.fblk t block every t.length 0 0 3) (Sk.lastF (Sk.fblk t block every t.length 0 0 3) k0)).frm ≤ f := by
      have := hG.lo q0.1 q0.2.1 _ hlf
      omega
    rw [zf.2.1] at hfl ⊢
    have hend : f + c ≤ min ((Sk.lastF (Sk.fblk t block every t.length 0 0 3) k0 + (k1 + 1 - Sk.lastF (Sk.fblk t block every t.length 0 0 3) k0)) * block) t.length := by
      rw [show Sk.lastF (Sk.fblk t block every t.length 0 0 3) k0 + (k1 + 1 - Sk.lastF (Sk.fblk t block every t.length 0 0 3) k0) = k1 + 1 by omega, Nat.add_mul, Nat.one_mul]
      have h1 := q1.2.2
      rw [z1.2.1, z1.2.2.1] at h1
      have hE : Sk.endOf t block k1 ≤ k1 * block + block := by unfold Sk.endOf; omega
      omega
    rw [Sk.sub_sub _ _ _ _ _ (by omega)]
    generalize Sk.lastF (Sk.fblk t block every t.length 0 0 3) k0 * block = x at hfl ⊢
    rw [show x + (f - x) = f by omega, show x + (f - x + c) = f + c by omega]

/-- The type of errors, out of the row's list. -/
theorem Tryd.gET : Tryd.prog.globalNamed "errors.errorType" = some 7 := by kernel_rfl
theorem Tryd.rtT : (Tryd.prog.cutTypes.find? (·.1 == "internal/reflectlite.rtype")).map (·.2) = some 137 := by kernel_rfl
theorem Tryd.oneRow : ((List.range 201).filter fun t => Tryd.prog.rowNamed t [101, 114, 114, 111, 114]) = [23] := by kernel_rfl
theorem Tryd.typesSize : Tryd.prog.types.size = 201 := by kernel_rfl
theorem errT_of_eight {W : World} (h : laidMetH Tryd.prog eightLaid W) : ErrT W := by
  have h' : laidMet Tryd.prog sevenLaid W ∧ handlesMet Tryd.prog [("errors.errorType", Rows.laid_errors_errorType)] W := h
  obtain ⟨name, u, ty, e1, e2, e3, e4, e5⟩ := h'.2 _ (List.mem_singleton.2 rfl)
  have en : name = [101, 114, 114, 111, 114] := (Option.some.inj e1).symm
  subst en
  obtain rfl := Option.some.inj (Tryd.rtT.symm.trans e2)
  have hm : ty ∈ (List.range 201).filter fun t => Tryd.prog.rowNamed t [101, 114, 114, 111, 114] := List.mem_filter.2 ⟨List.mem_range.2 (by rw [← Tryd.typesSize]; exact e3), e4⟩
  rw [Tryd.oneRow] at hm
  obtain rfl := List.mem_singleton.1 hm
  have hh : typeHandle Tryd.prog 23 = .pointer (some ⟨8, 23, none⟩) := by kernel_rfl
  rw [hh] at e5
  unfold ErrT
  simpa using World.var?_cell Tryd.gET e5 0
end Go.Proofs.YtafkpmjifgohcaaDoor
