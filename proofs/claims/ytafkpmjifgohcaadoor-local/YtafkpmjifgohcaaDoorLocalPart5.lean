/- The two ways of packing a block give the same bytes; a whole file's bytes. -/
import Derived.Test.YtafkpmjifgohcaaDoorPure2
namespace Go.Proofs.YtafkpmjifgohcaaDoor.Sk

theorem flush_runs (R : List UInt8) (h : R.length ≤ 128) : runsOf R = flush R := by
  unfold flush
  by_cases hr : R = []
  · rw [if_pos hr, hr]; rfl
  · rw [if_neg hr, runsOf_step R hr, List.take_of_length_le h, List.drop_of_length_le h, runsOf_nil, List.append_nil, show min R.length 128 = R.length by omega]

theorem runs_append : ∀ (k : Nat) (C R : List UInt8), C.length = 128 * k → runsOf (C ++ R) = runsOf C ++ runsOf R
  | 0, C, R, h => by
    have : C = [] := List.length_eq_zero_iff.1 (by omega)
    subst this
    rfl
  | k + 1, C, R, h => by
    have hc : C ≠ [] := fun e => by rw [e] at h; simp at h
    have hcr : C ++ R ≠ [] := by simp [hc]
    rw [runsOf_step (C ++ R) hcr, runsOf_step C hc, List.take_append_of_le_length (by omega), List.drop_append_of_le_length (by omega), runs_append k (C.drop 128) R (by rw [List.length_drop]; omega)]
    rw [show min (C ++ R).length 128 = 128 by rw [List.length_append]; omega, show min C.length 128 = 128 by omega]
    simp [List.append_assoc]

/-- Pending bytes P: full runs X are written, R is the open one. -/
def Ch (P X R : List UInt8) : Prop := ∃ (k : Nat) (C : List UInt8), P = C ++ R ∧ X = runsOf C ∧ C.length = 128 * k ∧ R.length ≤ 128

theorem Ch.nil : Ch [] [] [] := ⟨0, [], rfl, rfl, rfl, by simp⟩
theorem Ch.all {P X R : List UInt8} (h : Ch P X R) : X ++ flush R = runsOf P := by
  obtain ⟨k, C, rfl, rfl, hk, hr⟩ := h
  rw [runs_append k C R hk, flush_runs R hr]
theorem Ch.full {P X R : List UInt8} (h : Ch P X R) (hr : R.length = 128) (c : UInt8) : Ch (P ++ [c]) (X ++ flush R) [c] := by
  have := h.all
  obtain ⟨k, C, rfl, rfl, hk, _⟩ := h
  exact ⟨k + 1, C ++ R, rfl, this, by rw [List.length_append]; omega, by simp⟩
theorem Ch.more {P X R : List UInt8} (h : Ch P X R) (hr : R.length ≠ 128) (c : UInt8) : Ch (P ++ [c]) X (R ++ [c]) := by
  obtain ⟨k, C, rfl, rfl, hk, h1⟩ := h
  exact ⟨k, C, by rw [List.append_assoc], rfl, hk, by rw [List.length_append]; simp; omega⟩

theorem sub_self (s : List UInt8) (a : Nat) : sub s a a = [] := by simp [sub]
theorem sub_succ (s : List UInt8) (a b : Nat) (h : a ≤ b) (hb : b < s.length) : sub s a (b + 1) = sub s a b ++ [gt s b] := by
  unfold sub
  rw [show b + 1 - a = (b - a) + 1 by omega, List.take_succ_eq_append_getElem (by rw [List.length_drop]; omega)]
  congr 1
  simp only [List.getElem_drop, gt]
  rw [List.getD_eq_getElem?_getD, List.getElem?_eq_getElem hb]
  simp [show a + (b - a) = b by omega]

theorem pack_same (s : List UInt8) (r t : Nat) (ht : t ≤ s.length) : ∀ (k run p : Nat) (acc X R : List UInt8), run ≤ p → p ≤ t → t ≤ p + k → Ch (sub s run p) X R → packRN s r t k p (acc ++ X) R = packPN s r t k run p acc
  | 0, run, p, acc, X, R, h1, h2, h3, hc => by
    have : p = t := by omega
    subst this
    rw [packRN, packPN, List.append_assoc, hc.all]
  | k + 1, run, p, acc, X, R, h1, h2, h3, hc => by
    by_cases hlt : p < t
    · rw [packRN, packPN, if_pos hlt, if_pos hlt]
      have hb := best_le s r p t h2
      by_cases hn : (best s r p t).1 < 4
      · rw [if_neg (by omega), if_pos hn]
        by_cases hr : R.length = 128
        · rw [if_pos hr, List.append_assoc acc X]
          exact pack_same s r t ht k run (p + 1) acc _ _ (by omega) (by omega) (by omega) (by rw [sub_succ s run p h1 (by omega)]; exact hc.full hr _)
        · rw [if_neg hr]
          exact pack_same s r t ht k run (p + 1) acc _ _ (by omega) (by omega) (by omega) (by rw [sub_succ s run p h1 (by omega)]; exact hc.more hr _)
      · rw [if_pos (by omega), if_neg hn, List.append_assoc acc X, hc.all]
        have := pack_same s r t ht k (p + (best s r p t).1) (p + (best s r p t).1) (acc ++ runsOf (sub s run p) ++ copyOf (best s r p t).2 (best s r p t).1) [] [] (by omega) (by omega) (by omega) (by rw [sub_self]; exact Ch.nil)
        rw [List.append_nil] at this
        exact this
    · rw [packRN_end _ _ _ _ _ _ _ hlt, packPN_end _ _ _ _ _ _ _ hlt, List.append_assoc, hc.all, show p = t by omega]

theorem packP_eq (s : List UInt8) (r p t : Nat) (hp : p ≤ t) (ht : t ≤ s.length) : packP s r p t = packR s r p t :=
  (pack_same s r t ht (t - p) p p [] [] [] (Nat.le_refl _) hp (by omega) (by rw [sub_self]; exact Ch.nil)).symm

theorem packPN_length (s : List UInt8) (r t : Nat) (ht : t ≤ s.length) : ∀ (k run p : Nat) (acc : List UInt8), run ≤ p → p ≤ t → (packPN s r t k run p acc).length ≤ acc.length + 2 * (t - run)
  | 0, run, p, acc, h1, h2 => by
    have := runsOf_length (sub s run t)
    rw [sub_length s run t ht] at this
    rw [packPN, List.length_append]
    omega
  | k + 1, run, p, acc, h1, h2 => by
    by_cases hlt : p < t
    · rw [packPN, if_pos hlt]
      have hb := best_le s r p t h2
      by_cases hn : (best s r p t).1 < 4
      · rw [if_pos hn]
        exact packPN_length s r t ht k run (p + 1) acc (by omega) (by omega)
      · rw [if_neg hn]
        have h := packPN_length s r t ht k (p + (best s r p t).1) (p + (best s r p t).1) (acc ++ runsOf (sub s run p) ++ copyOf (best s r p t).2 (best s r p t).1) (by omega) (by omega)
        have := runsOf_length (sub s run p)
        rw [sub_length s run p (by omega)] at this
        rw [List.length_append, List.length_append, show (copyOf (best s r p t).2 (best s r p t).1).length = 3 by simp [copyOf, le]] at h
        omega
    · have := runsOf_length (sub s run t)
      rw [sub_length s run t ht] at this
      rw [packPN_end _ _ _ _ _ _ _ hlt, List.length_append]
      omega

theorem packR_length (s : List UInt8) (r p t : Nat) (hp : p ≤ t) (ht : t ≤ s.length) : (packR s r p t).length ≤ 2 * (t - p) := by
  rw [← packP_eq s r p t hp ht]
  have := packPN_length s r t ht (t - p) p p [] (Nat.le_refl _) hp
  simpa [packP] using this

theorem runsOf_pos (l : List UInt8) (h : 0 < l.length) : 0 < (runsOf l).length := by
  rw [runsOf_step l (List.length_pos_iff.1 h)]
  simp

theorem packPN_pos (s : List UInt8) (r t : Nat) (ht : t ≤ s.length) : ∀ (k run p : Nat) (acc : List UInt8), run ≤ p → p ≤ t → run < t ∨ 0 < acc.length → 0 < (packPN s r t k run p acc).length
  | 0, run, p, acc, h1, h2, h3 => by
    rw [packPN, List.length_append]
    rcases h3 with h3 | h3
    · have := runsOf_pos (sub s run t) (by rw [sub_length s run t ht]; omega)
      omega
    · omega
  | k + 1, run, p, acc, h1, h2, h3 => by
    by_cases hlt : p < t
    · rw [packPN, if_pos hlt]
      have hb := best_le s r p t h2
      by_cases hn : (best s r p t).1 < 4
      · rw [if_pos hn]
        exact packPN_pos s r t ht k run (p + 1) acc (by omega) (by omega) h3
      · rw [if_neg hn]
        exact packPN_pos s r t ht k _ _ _ (Nat.le_refl _) (by omega) (.inr (by simp [copyOf]; omega))
    · rw [packPN_end _ _ _ _ _ _ _ hlt, List.length_append]
      rcases h3 with h3 | h3
      · have := runsOf_pos (sub s run t) (by rw [sub_length s run t ht]; omega)
        omega
      · omega

theorem packR_pos (s : List UInt8) (r p t : Nat) (hp : p < t) (ht : t ≤ s.length) : 0 < (packR s r p t).length := by
  rw [← packP_eq s r p t (by omega) ht]
  exact packPN_pos s r t ht _ _ _ _ (Nat.le_refl _) (by omega) (.inl hp)

/-- Where a block ends; from where on it may copy; its bytes. -/
def endOf (s : List UInt8) (block k : Nat) : Nat := min (k * block + block) s.length
def fromOf (block every k r : Nat) : Nat := if k % every = 0 then k * block else r
def blockOf (s : List UInt8) (block every k r : Nat) : List UInt8 :=
  hdr (k % every == 0) (endOf s block k - k * block) (packR s (fromOf block every k r) (k * block) (endOf s block k)).length (sumOf (packR s (fromOf block every k r) (k * block) (endOf s block k))) ++ packR s (fromOf block every k r) (k * block) (endOf s block k)

/-- The blocks from the k-th on. -/
def blocksN (s : List UInt8) (block every : Nat) : Nat → Nat → Nat → List UInt8 → List UInt8
  | 0, _, _, out => out
  | f + 1, k, r, out => if k * block < s.length then blocksN s block every f (k + 1) (fromOf block every k r) (out ++ blockOf s block every k r) else out

theorem blocksN_end (s : List UInt8) (block every f k r : Nat) (out : List UInt8) (h : ¬ k * block < s.length) : blocksN s block every f k r out = out := by
  cases f
  · rfl
  · rw [blocksN, if_neg h]

/-- The file's bytes. -/
def fileOf (s : List UInt8) (block every : Nat) : List UInt8 := blocksN s block every s.length 0 0 [83, 75, 49]

theorem hdr_length (f : Bool) (n m x : Nat) : (hdr f n m x).length = 9 := by simp [hdr, le_length]
theorem blockOf_length (s : List UInt8) (block every k r : Nat) (h : k * block < s.length) (hb : 0 < block) : (blockOf s block every k r).length ≤ 11 * (endOf s block k - k * block) ∧ k * block < endOf s block k := by
  have he : k * block < endOf s block k := by unfold endOf; omega
  have hl : endOf s block k ≤ s.length := by unfold endOf; omega
  have := packR_length s (fromOf block every k r) (k * block) (endOf s block k) (by omega) hl
  unfold blockOf
  rw [List.length_append, hdr_length]
  omega

end Go.Proofs.YtafkpmjifgohcaaDoor.Sk
