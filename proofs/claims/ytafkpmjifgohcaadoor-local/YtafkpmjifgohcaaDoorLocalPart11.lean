/- Open reads the blocks that Pack wrote.
What was packed is unpacked.
What Open makes of a packed file that is cut off, or has a byte behind it.
What was packed is read: the whole file (pure).
How long a packed file may be (pure). -/
import Derived.Test.YtafkpmjifgohcaaDoorPureRead2
import Derived.Test.YtafkpmjifgohcaaDoorLocalPart5
namespace Go.Proofs.YtafkpmjifgohcaaDoor

theorem Sk.gt_mid (pre m rest : List UInt8) (i : Nat) (h : i < m.length) : Sk.gt (pre ++ (m ++ rest)) (pre.length + i) = Sk.gt m i := by
  unfold Sk.gt
  rw [List.getD_eq_getElem?_getD, List.getD_eq_getElem?_getD, List.getElem?_append_right (by omega), show pre.length + i - pre.length = i by omega, List.getElem?_append_left h]

theorem Sk.numAt_mid (pre m rest : List UInt8) : ∀ k i, i + k ≤ m.length → Sk.numAt (pre ++ (m ++ rest)) (pre.length + i) k = Sk.numAt m i k
  | 0, _, _ => rfl
  | k + 1, i, h => by rw [Sk.numAt, Sk.numAt, Sk.gt_mid pre m rest i (by omega), Nat.add_assoc, Sk.numAt_mid pre m rest k (i + 1) (by omega)]

theorem Sk.numAt_cons (a : UInt8) (l : List UInt8) : ∀ k i, Sk.numAt (a :: l) (i + 1) k = Sk.numAt l i k
  | 0, _ => rfl
  | k + 1, i => by
    rw [Sk.numAt, Sk.numAt, Sk.numAt_cons a l k (i + 1)]
    rfl

theorem Sk.numAt_le : ∀ k n, Sk.numAt (Sk.le n k) 0 k = n % 256 ^ k
  | 0, n => by simp [Sk.numAt, Nat.mod_one]
  | k + 1, n => by
    rw [Sk.numAt, Sk.le, Sk.numAt_cons, Sk.numAt_le k (n / 256)]
    have : (Sk.gt (UInt8.ofNat (n % 256) :: Sk.le (n / 256) k) 0).toNat = n % 256 := by
      show (UInt8.ofNat (n % 256)).toNat = n % 256
      rw [UInt8.toNat_ofNat_of_lt' (by show n % 256 < 256; omega)]
    rw [this, Nat.pow_succ, Nat.mul_comm (256 ^ k) 256, Nat.mod_mul]

/-- A header's parts, in a longer text. -/
theorem Sk.hdr_parts (pre rest : List UInt8) (f : Bool) (n m x : Nat) (hn : n < 65536) (hm : m < 65536) (hx : x < 4294967296) :
    (Sk.gt (pre ++ (Sk.hdr f n m x ++ rest)) pre.length).toNat = (if f then 1 else 0) ∧ Sk.numAt (pre ++ (Sk.hdr f n m x ++ rest)) (pre.length + 1) 2 = n ∧ Sk.numAt (pre ++ (Sk.hdr f n m x ++ rest)) (pre.length + 3) 2 = m ∧ Sk.numAt (pre ++ (Sk.hdr f n m x ++ rest)) (pre.length + 5) 4 = x := by
  have l1 : (Sk.le (if f then 1 else 0) 1).length = 1 := Sk.le_length _ _
  have l2 : (Sk.le n 2).length = 2 := Sk.le_length _ _
  have l3 : (Sk.le m 2).length = 2 := Sk.le_length _ _
  have l4 : (Sk.le x 4).length = 4 := Sk.le_length _ _
  refine ⟨?_, ?_, ?_, ?_⟩
  · have := Sk.gt_mid pre (Sk.hdr f n m x) rest 0 (by rw [Sk.hdr_length]; decide)
    rw [Nat.add_zero] at this
    rw [this]
    cases f <;> rfl
  · have := Sk.numAt_mid (pre ++ Sk.le (if f then 1 else 0) 1) (Sk.le n 2) (Sk.le m 2 ++ Sk.le x 4 ++ rest) 2 0 (by omega)
    rw [Sk.numAt_le, List.length_append, l1, Nat.add_zero] at this
    simp only [Sk.hdr, List.append_assoc] at this ⊢
    rw [this]
    exact Nat.mod_eq_of_lt hn
  · have := Sk.numAt_mid (pre ++ Sk.le (if f then 1 else 0) 1 ++ Sk.le n 2) (Sk.le m 2) (Sk.le x 4 ++ rest) 2 0 (by omega)
    rw [Sk.numAt_le, List.length_append, List.length_append, l1, l2, Nat.add_zero] at this
    simp only [Sk.hdr, List.append_assoc] at this ⊢
    rw [this]
    exact Nat.mod_eq_of_lt hm
  · have := Sk.numAt_mid (pre ++ Sk.le (if f then 1 else 0) 1 ++ Sk.le n 2 ++ Sk.le m 2) (Sk.le x 4) rest 4 0 (by omega)
    rw [Sk.numAt_le, List.length_append, List.length_append, List.length_append, l1, l2, l3, Nat.add_zero] at this
    simp only [Sk.hdr, List.append_assoc] at this ⊢
    rw [this]
    exact Nat.mod_eq_of_lt hx

theorem Sk.blocksN_pre (s : List UInt8) (block every : Nat) : ∀ f k r out, ∃ rest, Sk.blocksN s block every f k r out = out ++ rest
  | 0, _, _, out => ⟨[], by simp [Sk.blocksN]⟩
  | f + 1, k, r, out => by
    unfold Sk.blocksN
    split
    · obtain ⟨rest, h⟩ := Sk.blocksN_pre s block every f (k + 1) (Sk.fromOf block every k r) (out ++ Sk.blockOf s block every k r)
      exact ⟨_, by rw [h, List.append_assoc]⟩
    · exact ⟨[], by simp⟩

theorem Sk.blocksN_length (s : List UInt8) (block every : Nat) (hb : 0 < block) : ∀ f k r out, (Sk.blocksN s block every f k r out).length ≤ out.length + 11 * (s.length - k * block)
  | 0, _, _, out => by rw [Sk.blocksN]; omega
  | f + 1, k, r, out => by
    by_cases h : k * block < s.length
    · rw [Sk.blocksN, if_pos h]
      have ih := Sk.blocksN_length s block every hb f (k + 1) (Sk.fromOf block every k r) (out ++ Sk.blockOf s block every k r)
      obtain ⟨hl, _⟩ := Sk.blockOf_length s block every k r h hb
      rw [List.length_append, Nat.add_mul k 1 block, Nat.one_mul] at ih
      have he : Sk.endOf s block k = min (k * block + block) s.length := rfl
      rw [he] at hl
      generalize (Sk.blockOf s block every k r).length = B at hl ih
      generalize (Sk.blocksN s block every f (k + 1) (Sk.fromOf block every k r) (out ++ Sk.blockOf s block every k r)).length = T at ih ⊢
      generalize k * block = kb at h hl ih ⊢
      clear he
      rcases Nat.le_total (kb + block) s.length with hc | hc
      · rw [Nat.min_eq_left hc] at hl
        omega
      · rw [Nat.min_eq_right hc] at hl
        omega
    · rw [Sk.blocksN, if_neg h]
      omega

theorem Sk.fileOf_length (s : List UInt8) (block every : Nat) (hb : 0 < block) : (Sk.fileOf s block every).length ≤ 3 + 11 * s.length := by
  have := Sk.blocksN_length s block every hb s.length 0 0 [83, 75, 49]
  simp only [List.length_cons, List.length_nil, Nat.zero_mul, Nat.sub_zero] at this
  exact this

/-- The blocks of a packed file, from the k-th on. -/
def Sk.fblk (s : List UInt8) (block every : Nat) : Nat → Nat → Nat → Nat → List Sk.Blk
  | 0, _, _, _ => []
  | f + 1, k, r, p => if k * block < s.length then ⟨k * block, Sk.endOf s block k - k * block, p, k % every == 0⟩ :: Sk.fblk s block every f (k + 1) (Sk.fromOf block every k r) (p + (Sk.blockOf s block every k r).length) else []

theorem Sk.sum_lt (L : List UInt8) : Sk.sumOf L < 4294967296 := by
  have := Sk.sumN_lt L 1 0 (by decide) (by decide)
  unfold Sk.sumOf
  omega

/-- Open goes through what was packed, block by block. -/
theorem Sk.open_blocks (s : List UInt8) (block every : Nat) (hb1 : 1 ≤ block) (hb2 : block ≤ 1024) (hs : s.length ≤ 20000) (F : List UInt8) :
    ∀ f g k r out bs, s.length ≤ k + f → F.length ≤ out.length + g → Sk.blocksN s block every f k r out = F → (k = 0 ↔ bs = []) → Sk.openN F g out.length bs (min (k * block) s.length) = (0, bs ++ Sk.fblk s block every f k r out.length, s.length)
  | 0, g, k, r, out, bs, hf, _, hF, _ => by
    have hk : s.length ≤ k * block := Nat.le_trans (by omega) (Nat.le_mul_of_pos_right _ hb1)
    rw [Sk.blocksN] at hF
    rw [Sk.openN_end _ _ _ _ _ (by rw [hF]; exact Nat.lt_irrefl _), Sk.fblk, List.append_nil, Nat.min_eq_right hk]
  | f + 1, g, k, r, out, bs, hf, hg, hF, hk0 => by
    by_cases hk : k * block < s.length
    · have hkb : k ≤ k * block := Nat.le_mul_of_pos_right _ hb1
      rw [Sk.blocksN, if_pos hk] at hF
      obtain ⟨rest, hr⟩ := Sk.blocksN_pre s block every f (k + 1) (Sk.fromOf block every k r) (out ++ Sk.blockOf s block every k r)
      rw [Sk.fblk, if_pos hk]
      have hE : k * block < Sk.endOf s block k := by unfold Sk.endOf; omega
      have hE2 : Sk.endOf s block k ≤ s.length := by unfold Sk.endOf; omega
      have hE3 : Sk.endOf s block k ≤ k * block + block := by unfold Sk.endOf; omega
      have hE4 : min ((k + 1) * block) s.length = Sk.endOf s block k := by rw [Nat.succ_mul]; rfl
      obtain ⟨P, hP⟩ : ∃ P, P = Sk.packR s (Sk.fromOf block every k r) (k * block) (Sk.endOf s block k) := ⟨_, rfl⟩
      have hPl : P.length ≤ 2 * (Sk.endOf s block k - k * block) := by rw [hP]; exact Sk.packR_length _ _ _ _ (by omega) hE2
      have hB : Sk.blockOf s block every k r = Sk.hdr (k % every == 0) (Sk.endOf s block k - k * block) P.length (Sk.sumOf P) ++ P := by rw [hP]; rfl
      have hBl : (Sk.blockOf s block every k r).length = 9 + P.length := by rw [hB, List.length_append, Sk.hdr_length]
      have hFe : F = out ++ (Sk.hdr (k % every == 0) (Sk.endOf s block k - k * block) P.length (Sk.sumOf P) ++ (P ++ rest)) := by
        rw [← hF, hr, hB]; simp only [List.append_assoc]
      obtain ⟨q0, q1, q2, _⟩ := Sk.hdr_parts out (P ++ rest) (k % every == 0) (Sk.endOf s block k - k * block) P.length (Sk.sumOf P) (by omega) (by omega) (Sk.sum_lt P)
      rw [← hFe] at q0 q1 q2
      have hFl : out.length + 9 + P.length ≤ F.length := by
        rw [hFe]
        simp only [List.length_append, Sk.hdr_length]
        omega
      obtain ⟨g, rfl⟩ : ∃ j, g = j + 1 := ⟨g - 1, by omega⟩
      have hmin : min (k * block) s.length = k * block := Nat.min_eq_left (by omega)
      have hfr : ((Sk.gt F out.length).toNat == 1) = (k % every == 0) := by
        rw [q0]; cases (k % every == 0) <;> rfl
      have hbad : Sk.badHdr F out.length bs (min (k * block) s.length) = false := by
        unfold Sk.badHdr
        rw [q1, hfr, q0, hmin]
        have e1 : ¬ (1 < (if (k % every == 0) = true then 1 else 0)) := by split <;> omega
        have e2 : (bs.isEmpty && !(k % every == 0)) = false := by
          by_cases h : bs = []
          · rw [hk0.2 h]; simp
          · have : bs.isEmpty = false := by simpa using h
            rw [this]; rfl
        rw [e2]
        simp only [Bool.or_false, Bool.or_eq_false_iff, decide_eq_false_iff_not]
        exact ⟨⟨⟨e1, by omega⟩, by omega⟩, by omega⟩
      rw [Sk.openN, if_pos (by omega), if_neg (by omega), hbad, if_neg (by decide), q2, if_neg (by omega), q1, hfr]
      have ih := Sk.open_blocks s block every hb1 hb2 hs F f g (k + 1) (Sk.fromOf block every k r) (out ++ Sk.blockOf s block every k r) (bs ++ [⟨min (k * block) s.length, Sk.endOf s block k - k * block, out.length, k % every == 0⟩]) (by omega) (by rw [List.length_append, hBl]; omega) hF (by simp)
      rw [hE4, List.length_append, hBl] at ih
      rw [show out.length + 9 + P.length = out.length + (9 + P.length) by omega, show min (k * block) s.length + (Sk.endOf s block k - k * block) = Sk.endOf s block k by omega, ih, hBl, hmin]
      simp
    · rw [Sk.blocksN_end _ _ _ _ _ _ _ hk] at hF
      rw [Sk.openN_end _ _ _ _ _ (by rw [hF]; exact Nat.lt_irrefl _), Sk.fblk, if_neg hk, List.append_nil, Nat.min_eq_right (by omega)]

/-- What Open makes of a packed file. -/
theorem Sk.openR_file (s : List UInt8) (block every : Nat) (hb1 : 1 ≤ block) (hb2 : block ≤ 1024) (hs : s.length ≤ 20000) (hf : (Sk.fileOf s block every).length ≤ 65536) :
    Sk.openR (Sk.fileOf s block every) = (0, Sk.fblk s block every s.length 0 0 3, s.length) := by
  obtain ⟨rest, hr⟩ := Sk.blocksN_pre s block every s.length 0 0 [83, 75, 49]
  have hF : Sk.fileOf s block every = [83, 75, 49] ++ rest := hr
  have hl : 3 ≤ (Sk.fileOf s block every).length := by rw [hF]; simp
  have ht : (Sk.fileOf s block every).take 3 = [83, 75, 49] := by rw [hF]; rfl
  unfold Sk.openR
  rw [if_neg (by omega), if_neg (by rw [ht]; intro h; rcases h with h | h; omega; exact h rfl)]
  have := Sk.open_blocks s block every hb1 hb2 hs (Sk.fileOf s block every) s.length (Sk.fileOf s block every).length 0 0 [83, 75, 49] [] (by omega) (by omega) rfl (by simp)
  simpa using this
end Go.Proofs.YtafkpmjifgohcaaDoor

namespace Go.Proofs.YtafkpmjifgohcaaDoor

/-- The tokens X unpack a to b. -/
def Sk.Tk (X a b : List UInt8) : Prop := ∀ (A rest : List UInt8) (most f : Nat), b.length ≤ most → X.length ≤ f → ∃ f', f ≤ f' + X.length ∧ Sk.unpN (A ++ (X ++ rest)) most f A.length a = Sk.unpN (A ++ (X ++ rest)) most f' (A.length + X.length) b

theorem Sk.Tk.nil (a : List UInt8) : Sk.Tk [] a a := fun A rest most f _ _ => ⟨f, by simp, by simp⟩

theorem Sk.Tk.app {X Y a b c : List UInt8} (h : Sk.Tk X a b) (h' : Sk.Tk Y b c) (hbc : b.length ≤ c.length) : Sk.Tk (X ++ Y) a c := fun A rest most f hm hf => by
  rw [List.length_append] at hf
  obtain ⟨f1, g1, e1⟩ := h A (Y ++ rest) most f (by omega) (by omega)
  obtain ⟨f2, g2, e2⟩ := h' (A ++ X) rest most f1 hm (by omega)
  refine ⟨f2, by rw [List.length_append]; omega, ?_⟩
  rw [List.append_assoc, e1]
  rw [List.length_append, List.append_assoc] at e2
  rw [e2, List.length_append, Nat.add_assoc]

theorem Sk.sub_mid (A X rest : List UInt8) (i j : Nat) (hj : j ≤ X.length) : Sk.sub (A ++ (X ++ rest)) (A.length + i) (A.length + j) = Sk.sub X i j := by
  unfold Sk.sub
  rw [List.drop_append, show A.length + i - A.length = i by omega, List.drop_of_length_le (l := A) (by omega), List.nil_append, show A.length + j - (A.length + i) = j - i by omega]
  rcases Nat.lt_or_ge X.length i with h | h
  · rw [show j - i = 0 by omega]; simp
  · rw [List.drop_append_of_le_length (by omega), List.take_append_of_le_length (by rw [List.length_drop]; omega)]

theorem Sk.Tk.run (a R : List UInt8) (h1 : 1 ≤ R.length) (h2 : R.length ≤ 128) : Sk.Tk (UInt8.ofNat (R.length - 1) :: R) a (a ++ R) := fun A rest most f hm hf => by
  rw [List.length_cons] at hf
  rw [List.length_append] at hm
  obtain ⟨f, rfl⟩ : ∃ j, f = j + 1 := ⟨f - 1, by omega⟩
  obtain ⟨X, hX⟩ : ∃ X, X = UInt8.ofNat (R.length - 1) :: R := ⟨_, rfl⟩
  have hXl : X.length = R.length + 1 := by rw [hX, List.length_cons]
  have hg : (Sk.gt (A ++ (X ++ rest)) A.length).toNat = R.length - 1 := by
    have := Sk.gt_mid A X rest 0 (by omega)
    rw [Nat.add_zero] at this
    rw [this, hX]
    show (UInt8.ofNat (R.length - 1)).toNat = _
    rw [UInt8.toNat_ofNat_of_lt' (by show R.length - 1 < 256; omega)]
  have hs : Sk.sub (A ++ (X ++ rest)) (A.length + 1) (A.length + 2 + (R.length - 1)) = R := by
    rw [show A.length + 2 + (R.length - 1) = A.length + (R.length + 1) by omega, Sk.sub_mid A X rest 1 (R.length + 1) (by omega), hX]
    unfold Sk.sub
    rw [List.drop_one, List.tail_cons, Nat.add_sub_cancel, List.take_length]
  have hl : (A ++ (X ++ rest)).length = A.length + (R.length + 1) + rest.length := by simp only [List.length_append, hXl]; omega
  rw [← hX]
  refine ⟨f, by omega, ?_⟩
  rw [Sk.unpN, if_pos (by omega), hg, if_pos (by omega), if_neg (by omega), if_neg (by omega), hs, hXl, show A.length + 2 + (R.length - 1) = A.length + (R.length + 1) by omega]

theorem Sk.Tk.copy (a : List UInt8) (d n : Nat) (h4 : 4 ≤ n) (hn : n ≤ 131) (hd1 : 1 ≤ d) (hd2 : d ≤ 65535) (hda : d ≤ a.length) : Sk.Tk (Sk.copyOf d n) a (Sk.cpy d n a) := fun A rest most f hm hf => by
  obtain ⟨X, hX⟩ : ∃ X, X = Sk.copyOf d n := ⟨_, rfl⟩
  have hXl : X.length = 3 := by rw [hX]; simp [Sk.copyOf, Sk.le_length]
  rw [← hX] at hf ⊢
  rw [Sk.cpy_length] at hm
  obtain ⟨f, rfl⟩ : ∃ j, f = j + 1 := ⟨f - 1, by omega⟩
  have hg : (Sk.gt (A ++ (X ++ rest)) A.length).toNat = 124 + n := by
    have := Sk.gt_mid A X rest 0 (by omega)
    rw [Nat.add_zero] at this
    rw [this, hX]
    show (UInt8.ofNat (128 + n - 4)).toNat = _
    rw [UInt8.toNat_ofNat_of_lt' (by show 128 + n - 4 < 256; omega)]
    omega
  have hnum : Sk.numAt (A ++ (X ++ rest)) (A.length + 1) 2 = d := by
    rw [Sk.numAt_mid A X rest 2 1 (by omega), hX, Sk.copyOf, Sk.numAt_cons, Sk.numAt_le]
    exact Nat.mod_eq_of_lt (by omega)
  have hl : (A ++ (X ++ rest)).length = A.length + 3 + rest.length := by simp only [List.length_append, hXl]; omega
  refine ⟨f, by omega, ?_⟩
  rw [Sk.unpN, if_pos (by omega), hg, if_neg (by omega), if_neg (by omega), hnum, if_neg (by omega), if_neg (by omega), hXl, show 124 + n - 128 + 4 = n by omega]

/-- All tokens, and nothing else. -/
theorem Sk.Tk.all {X a b : List UInt8} (h : Sk.Tk X a b) (size : Nat) (hb : b.length = a.length + size) : Sk.unp X size a = some b := by
  obtain ⟨f', g, e⟩ := h [] [] (a.length + size) (X.length + 1) (by omega) (by omega)
  simp only [List.nil_append, List.append_nil, List.length_nil, Nat.zero_add] at e
  obtain ⟨f', rfl⟩ : ∃ j, f' = j + 1 := ⟨f' - 1, by omega⟩
  rw [Sk.unp, e, Sk.unpN, if_neg (Nat.lt_irrefl _), if_pos hb]

theorem Sk.sameN_spec (s : List UInt8) (e p : Nat) : ∀ k n i, n ≤ i → i < Sk.sameN s e p k n → Sk.gt s (e + i) = Sk.gt s (p + i)
  | 0, n, i, h1, h2 => by rw [Sk.sameN] at h2; omega
  | k + 1, n, i, h1, h2 => by
    unfold Sk.sameN at h2
    split at h2
    · next heq =>
      rcases Nat.lt_or_ge n i with h | h
      · exact Sk.sameN_spec s e p k (n + 1) i h h2
      · rw [show i = n by omega]; exact heq
    · omega

/-- The best distance's own bytes. -/
theorem Sk.bestN_spec (s : List UInt8) (p most : Nat) : ∀ k d best far, 1 ≤ d → (best = 0 ∨ (1 ≤ far ∧ far < d ∧ best = Sk.sameN s (p - far) p most 0)) →
    (Sk.bestN s p most k d best far).1 = 0 ∨ (1 ≤ (Sk.bestN s p most k d best far).2 ∧ (Sk.bestN s p most k d best far).2 < d + k ∧ (Sk.bestN s p most k d best far).1 = Sk.sameN s (p - (Sk.bestN s p most k d best far).2) p most 0)
  | 0, d, best, far, _, h => by
    rw [Sk.bestN]
    exact h
  | k + 1, d, best, far, hd, h => by
    unfold Sk.bestN
    split
    · have := Sk.bestN_spec s p most k (d + 1) (Sk.sameN s (p - d) p most 0) d (by omega) (.inr ⟨hd, by omega, rfl⟩)
      rw [show d + (k + 1) = d + 1 + k by omega]
      exact this
    · have := Sk.bestN_spec s p most k (d + 1) best far (by omega) (h.imp id (fun ⟨a, b, c⟩ => ⟨a, by omega, c⟩))
      rw [show d + (k + 1) = d + 1 + k by omega]
      exact this

theorem Sk.best_spec (s : List UInt8) (r p t : Nat) (h4 : 4 ≤ (Sk.best s r p t).1) : 1 ≤ (Sk.best s r p t).2 ∧ (Sk.best s r p t).2 ≤ p - r ∧ (Sk.best s r p t).2 ≤ 65535 ∧ ∀ i, i < (Sk.best s r p t).1 → Sk.gt s (p - (Sk.best s r p t).2 + i) = Sk.gt s (p + i) := by
  have := Sk.bestN_spec s p (min (t - p) 131) (min (p - r) 65535) 1 0 0 (Nat.le_refl _) (.inl rfl)
  have hb : Sk.best s r p t = Sk.bestN s p (min (t - p) 131) (min (p - r) 65535) 1 0 0 := rfl
  rw [← hb] at this
  rcases this with h | ⟨a, b, c⟩
  · omega
  · refine ⟨a, by omega, by omega, fun i hi => Sk.sameN_spec s _ _ _ 0 i (Nat.zero_le _) (by rw [← c]; exact hi)⟩

/-- A copy of bytes that are the same goes on as the data does. -/
theorem Sk.cpy_data (s : List UInt8) (r d : Nat) (hd : 1 ≤ d) : ∀ n p, d ≤ p - r → p + n ≤ s.length → r ≤ p → (∀ i, i < n → Sk.gt s (p - d + i) = Sk.gt s (p + i)) → Sk.cpy d n (Sk.sub s r p) = Sk.sub s r (p + n)
  | 0, p, _, _, _, _ => rfl
  | n + 1, p, hdp, hl, hr, hm => by
    have hsl : (Sk.sub s r p).length = p - r := Sk.sub_length s r p (by omega)
    have hgt : Sk.gt (Sk.sub s r p) (p - r - d) = Sk.gt s (p - d) := by
      unfold Sk.gt Sk.sub
      rw [List.getD_eq_getElem?_getD, List.getD_eq_getElem?_getD, List.getElem?_take, if_pos (by omega), List.getElem?_drop, show r + (p - r - d) = p - d by omega]
    rw [Sk.cpy, hsl, hgt, show Sk.gt s (p - d) = Sk.gt s p from by have := hm 0 (by omega); simpa using this, ← Sk.sub_succ s r p hr (by omega)]
    rw [Sk.cpy_data s r d hd n (p + 1) (by omega) (by omega) (by omega) (fun i hi => by have := hm (i + 1) (by omega); rw [show p + 1 - d + i = p - d + (i + 1) by omega, this]; congr 1; omega)]
    congr 1
    omega

theorem Sk.sub_app (s : List UInt8) (a b c : Nat) (h1 : a ≤ b) (h2 : b ≤ c) (h3 : c ≤ s.length) : Sk.sub s a b ++ Sk.sub s b c = Sk.sub s a c := by
  have e : ∀ k, b + k ≤ s.length → Sk.sub s a b ++ Sk.sub s b (b + k) = Sk.sub s a (b + k) := by
    intro k
    induction k with
    | zero => intro _; rw [Nat.add_zero, Sk.sub_self, List.append_nil]
    | succ k ih =>
      intro hk
      rw [← Nat.add_assoc, Sk.sub_succ s b (b + k) (by omega) (by omega), ← List.append_assoc, ih (by omega), Sk.sub_succ s a (b + k) (by omega) (by omega)]
  have := e (c - b) (by omega)
  rw [show b + (c - b) = c by omega] at this
  exact this

theorem Sk.flush_tk (s : List UInt8) (r q p : Nat) (h1 : r ≤ q) (h2 : q ≤ p) (h3 : p ≤ s.length) (h4 : p - q ≤ 128) : Sk.Tk (Sk.flush (Sk.sub s q p)) (Sk.sub s r q) (Sk.sub s r p) := by
  have hl : (Sk.sub s q p).length = p - q := Sk.sub_length s q p h3
  unfold Sk.flush
  split
  · next h =>
    rw [h] at hl
    have : p = q := by simp at hl; omega
    subst this
    exact Sk.Tk.nil _
  · next h =>
    have h0 : (Sk.sub s q p).length ≠ 0 := fun e => h (List.length_eq_zero_iff.1 e)
    rw [← Sk.sub_app s r q p h1 h2 h3]
    exact Sk.Tk.run _ _ (by omega) (by omega)

/-- The document's packing unpacks to the data. -/
theorem Sk.packRN_tk (s : List UInt8) (r t p0 : Nat) (ht : t ≤ s.length) (hr0 : r ≤ p0) : ∀ k q p out, p0 ≤ q → q ≤ p → p ≤ t → t ≤ p + k → p - q ≤ 128 → Sk.Tk out (Sk.sub s r p0) (Sk.sub s r q) → Sk.Tk (Sk.packRN s r t k p out (Sk.sub s q p)) (Sk.sub s r p0) (Sk.sub s r t)
  | 0, q, p, out, h0, h1, h2, h3, h4, h => by
    obtain rfl : p = t := by omega
    rw [Sk.packRN]
    exact h.app (Sk.flush_tk s r q p (by omega) h1 ht h4) (by rw [Sk.sub_length _ _ _ ht, Sk.sub_length _ _ _ (by omega)]; omega)
  | k + 1, q, p, out, h0, h1, h2, h3, h4, h => by
    have hlq : (Sk.sub s r q).length = q - r := Sk.sub_length _ _ _ (by omega)
    have hlp : (Sk.sub s r p).length = p - r := Sk.sub_length _ _ _ (by omega)
    have hrl : (Sk.sub s q p).length = p - q := Sk.sub_length _ _ _ (by omega)
    have hfl := h.app (Sk.flush_tk s r q p (by omega) h1 (by omega) h4) (by omega)
    by_cases hp : p < t
    · rw [Sk.packRN, if_pos hp]
      by_cases hb : 4 ≤ (Sk.best s r p t).1
      · rw [if_pos hb]
        obtain ⟨b1, b2, b3, b4⟩ := Sk.best_spec s r p t hb
        obtain ⟨l1, l2, l3⟩ := Sk.best_le s r p t (by omega)
        generalize (Sk.best s r p t).1 = n at *
        generalize (Sk.best s r p t).2 = d at *
        have hc := Sk.cpy_data s r d b1 n p b2 (by omega) (by omega) b4
        have hk := hfl.app (Sk.Tk.copy (Sk.sub s r p) d n hb l2 b1 b3 (by omega)) (by rw [hc, hlp, Sk.sub_length _ _ _ (by omega)]; omega)
        rw [hc] at hk
        have := Sk.packRN_tk s r t p0 ht hr0 k (p + n) (p + n) _ (by omega) (Nat.le_refl _) l1 (by omega) (by omega) hk
        rw [Sk.sub_self] at this
        exact this
      · rw [if_neg hb]
        by_cases h128 : (Sk.sub s q p).length = 128
        · rw [if_pos h128]
          have := Sk.packRN_tk s r t p0 ht hr0 k p (p + 1) _ (by omega) (by omega) (by omega) (by omega) (by omega) hfl
          rw [Sk.sub_succ s p p (Nat.le_refl _) (by omega), Sk.sub_self, List.nil_append] at this
          exact this
        · rw [if_neg h128]
          have := Sk.packRN_tk s r t p0 ht hr0 k q (p + 1) out (by omega) (by omega) (by omega) (by omega) (by omega) h
          rw [Sk.sub_succ s q p h1 (by omega)] at this
          exact this
    · obtain rfl : p = t := by omega
      rw [Sk.packRN_end _ _ _ _ _ _ _ hp]
      exact hfl

/-- A block's packed bytes unpack to its data. -/
theorem Sk.unp_packR (s : List UInt8) (r p t : Nat) (hr : r ≤ p) (hp : p ≤ t) (ht : t ≤ s.length) : Sk.unp (Sk.packR s r p t) (t - p) (Sk.sub s r p) = some (Sk.sub s r t) := by
  have h := Sk.packRN_tk s r t p ht hr (t - p) p p [] (Nat.le_refl _) (Nat.le_refl _) hp (by omega) (by omega) (Sk.Tk.nil _)
  rw [Sk.sub_self] at h
  exact h.all (t - p) (by rw [Sk.sub_length _ _ _ ht, Sk.sub_length _ _ _ (by omega)]; omega)
end Go.Proofs.YtafkpmjifgohcaaDoor

namespace Go.Proofs.YtafkpmjifgohcaaDoor

/-- A header that Pack wrote may stand where it stands. -/
theorem Sk.hdr_ok (s : List UInt8) (block every : Nat) (hb2 : block ≤ 1024) (hs : s.length ≤ 20000) (hb1 : 1 ≤ block) (G out rest P : List UInt8) (k : Nat) (bs : List Sk.Blk) (hk : k * block < s.length) (hk0 : k = 0 ↔ bs = []) (hP : P.length ≤ 2 * (Sk.endOf s block k - k * block))
    (hG : G = out ++ (Sk.hdr (k % every == 0) (Sk.endOf s block k - k * block) P.length (Sk.sumOf P) ++ rest)) :
    Sk.badHdr G out.length bs (min (k * block) s.length) = false ∧ Sk.numAt G (out.length + 1) 2 = Sk.endOf s block k - k * block ∧ Sk.numAt G (out.length + 3) 2 = P.length ∧ ((Sk.gt G out.length).toNat == 1) = (k % every == 0) := by
  have hE2 : Sk.endOf s block k ≤ s.length := by unfold Sk.endOf; omega
  have hE : k * block < Sk.endOf s block k := by unfold Sk.endOf; omega
  have hE3 : Sk.endOf s block k ≤ k * block + block := by unfold Sk.endOf; omega
  obtain ⟨q0, q1, q2, _⟩ := Sk.hdr_parts out rest (k % every == 0) (Sk.endOf s block k - k * block) P.length (Sk.sumOf P) (by omega) (by omega) (Sk.sum_lt P)
  rw [← hG] at q0 q1 q2
  have hmin : min (k * block) s.length = k * block := Nat.min_eq_left (by omega)
  have hfr : ((Sk.gt G out.length).toNat == 1) = (k % every == 0) := by
    rw [q0]; cases (k % every == 0) <;> rfl
  refine ⟨?_, q1, q2, hfr⟩
  unfold Sk.badHdr
  rw [q1, hfr, q0, hmin]
  have e1 : ¬ (1 < (if (k % every == 0) = true then 1 else 0)) := by split <;> omega
  have e2 : (bs.isEmpty && !(k % every == 0)) = false := by
    by_cases h : bs = []
    · rw [hk0.2 h]; simp
    · have : bs.isEmpty = false := by simpa using h
      rw [this]; rfl
  rw [e2]
  simp only [Bool.or_false, Bool.or_eq_false_iff, decide_eq_false_iff_not]
  exact ⟨⟨⟨e1, by omega⟩, by omega⟩, by omega⟩

theorem Sk.packedLen (s : List UInt8) (block every k r : Nat) (hk : k * block < s.length) (hb1 : 1 ≤ block) : ∃ P, P.length ≤ 2 * (Sk.endOf s block k - k * block) ∧ Sk.blockOf s block every k r = Sk.hdr (k % every == 0) (Sk.endOf s block k - k * block) P.length (Sk.sumOf P) ++ P := by
  have hE : k * block < Sk.endOf s block k := by unfold Sk.endOf; omega
  have hE2 : Sk.endOf s block k ≤ s.length := by unfold Sk.endOf; omega
  exact ⟨_, Sk.packR_length s (Sk.fromOf block every k r) _ _ (by omega) hE2, rfl⟩

/-- Open goes over one block that Pack wrote. -/
theorem Sk.open_step (s : List UInt8) (block every : Nat) (hb1 : 1 ≤ block) (hb2 : block ≤ 1024) (hs : s.length ≤ 20000) (G out rest : List UInt8) (k r g : Nat) (bs : List Sk.Blk) (hk : k * block < s.length) (hk0 : k = 0 ↔ bs = []) (hG : G = out ++ (Sk.blockOf s block every k r ++ rest)) :
    Sk.openN G (g + 1) out.length bs (min (k * block) s.length) = Sk.openN G g (out ++ Sk.blockOf s block every k r).length (bs ++ [⟨k * block, Sk.endOf s block k - k * block, out.length, k % every == 0⟩]) (min ((k + 1) * block) s.length) := by
  obtain ⟨P, hP, hB⟩ := Sk.packedLen s block every k r hk hb1
  have hE : k * block < Sk.endOf s block k := by unfold Sk.endOf; omega
  have hE2 : Sk.endOf s block k ≤ s.length := by unfold Sk.endOf; omega
  have hE4 : min ((k + 1) * block) s.length = Sk.endOf s block k := by rw [Nat.add_mul, Nat.one_mul]; rfl
  have hmin : min (k * block) s.length = k * block := Nat.min_eq_left (by omega)
  have hGe : G = out ++ (Sk.hdr (k % every == 0) (Sk.endOf s block k - k * block) P.length (Sk.sumOf P) ++ (P ++ rest)) := by rw [hG, hB]; simp only [List.append_assoc]
  obtain ⟨hbad, q1, q2, hfr⟩ := Sk.hdr_ok s block every hb2 hs hb1 G out (P ++ rest) P k bs hk hk0 hP hGe
  have hGl : out.length + 9 + P.length ≤ G.length := by
    rw [hGe]
    simp only [List.length_append, Sk.hdr_length]
    omega
  rw [Sk.openN, if_pos (by omega), if_neg (by omega), hbad, if_neg (by decide), q2, if_neg (by omega), q1, hfr, hE4, hmin, List.length_append, hB, List.length_append, Sk.hdr_length]
  rw [show k * block + (Sk.endOf s block k - k * block) = Sk.endOf s block k by omega, Nat.add_assoc]

/-- A byte behind it. -/
theorem Sk.open_behind (s : List UInt8) (block every : Nat) (hb1 : 1 ≤ block) (hb2 : block ≤ 1024) (hs : s.length ≤ 20000) (F : List UInt8) (c : UInt8) :
    ∀ f g k r out bs, s.length ≤ k + f → F.length + 1 ≤ out.length + g → Sk.blocksN s block every f k r out = F → (k = 0 ↔ bs = []) → Sk.openN (F ++ [c]) g out.length bs (min (k * block) s.length) = (4, [], 0)
  | 0, g, k, r, out, bs, hf, hg, hF, _ => by
    rw [Sk.blocksN] at hF
    subst hF
    obtain ⟨g, rfl⟩ : ∃ j, g = j + 1 := ⟨g - 1, by omega⟩
    rw [Sk.openN, if_pos (by simp), if_pos (by simp)]
  | f + 1, g, k, r, out, bs, hf, hg, hF, hk0 => by
    obtain ⟨g, rfl⟩ : ∃ j, g = j + 1 := ⟨g - 1, by
      have : out.length ≤ F.length := by
        obtain ⟨rest, hr⟩ := Sk.blocksN_pre s block every (f + 1) k r out
        rw [← hF, hr, List.length_append]; omega
      omega⟩
    by_cases hk : k * block < s.length
    · rw [Sk.blocksN, if_pos hk] at hF
      obtain ⟨rest, hr⟩ := Sk.blocksN_pre s block every f (k + 1) (Sk.fromOf block every k r) (out ++ Sk.blockOf s block every k r)
      have hkb : k ≤ k * block := Nat.le_mul_of_pos_right _ hb1
      have hlen := (Sk.blockOf_length s block every k r hk hb1)
      obtain ⟨P, hP, hB⟩ := Sk.packedLen s block every k r hk hb1
      have hBl : 9 ≤ (Sk.blockOf s block every k r).length := by rw [hB, List.length_append, Sk.hdr_length]; omega
      rw [Sk.open_step s block every hb1 hb2 hs (F ++ [c]) out (rest ++ [c]) k r g bs hk hk0 (by rw [← hF, hr]; simp only [List.append_assoc])]
      exact Sk.open_behind s block every hb1 hb2 hs F c f g (k + 1) _ _ _ (by omega) (by rw [List.length_append]; omega) hF (by simp)
    · rw [Sk.blocksN_end _ _ _ _ _ _ _ hk] at hF
      subst hF
      rw [Sk.openN, if_pos (by simp), if_pos (by simp)]

theorem Sk.fblk_pos (s : List UInt8) (block every : Nat) : ∀ f k r p, ∀ b ∈ Sk.fblk s block every f k r p, p ≤ b.pos
  | 0, _, _, _, _, h => by cases h
  | f + 1, k, r, p, b, h => by
    unfold Sk.fblk at h
    split at h
    · rcases List.mem_cons.1 h with rfl | h
      · exact Nat.le_refl _
      · have := Sk.fblk_pos s block every f (k + 1) _ _ b h
        omega
    · cases h

/-- Cut off. -/
theorem Sk.open_cut (s : List UInt8) (block every : Nat) (hb1 : 1 ≤ block) (hb2 : block ≤ 1024) (hs : s.length ≤ 20000) (F : List UInt8) (n : Nat) (hn : n < F.length) :
    ∀ f g k r out bs, s.length ≤ k + f → n + 1 ≤ out.length + g → out.length ≤ n → Sk.blocksN s block every f k r out = F → (k = 0 ↔ bs = []) →
      (∀ b ∈ Sk.fblk s block every f k r out.length, b.pos = n → (Sk.openN (F.take n) g out.length bs (min (k * block) s.length)).1 = 0 ∧ (Sk.openN (F.take n) g out.length bs (min (k * block) s.length)).2.2 = b.frm) ∧
      ((∀ b ∈ Sk.fblk s block every f k r out.length, b.pos ≠ n) → Sk.openN (F.take n) g out.length bs (min (k * block) s.length) = (4, [], 0))
  | 0, g, k, r, out, bs, hf, hg, ho, hF, _ => by
    rw [Sk.blocksN] at hF
    subst hF
    omega
  | f + 1, g, k, r, out, bs, hf, hg, ho, hF, hk0 => by
    have hFn : (F.take n).length = n := by rw [List.length_take]; omega
    by_cases hk : k * block < s.length
    · rw [Sk.blocksN, if_pos hk] at hF
      obtain ⟨rest, hr⟩ := Sk.blocksN_pre s block every f (k + 1) (Sk.fromOf block every k r) (out ++ Sk.blockOf s block every k r)
      have hkb : k ≤ k * block := Nat.le_mul_of_pos_right _ hb1
      obtain ⟨P, hP, hB⟩ := Sk.packedLen s block every k r hk hb1
      have hBl : (Sk.blockOf s block every k r).length = 9 + P.length := by rw [hB, List.length_append, Sk.hdr_length]
      have hFe : F = out ++ (Sk.blockOf s block every k r ++ rest) := by rw [← hF, hr, List.append_assoc]
      rw [Sk.fblk, if_pos hk]
      have hmem : ∀ b ∈ Sk.fblk s block every f (k + 1) (Sk.fromOf block every k r) (out.length + (Sk.blockOf s block every k r).length), out.length + (Sk.blockOf s block every k r).length ≤ b.pos := Sk.fblk_pos s block every f (k + 1) _ _
      rcases Nat.lt_or_ge out.length n with h1 | h1
      · obtain ⟨g, rfl⟩ : ∃ j, g = j + 1 := ⟨g - 1, by omega⟩
        rcases Nat.lt_or_ge n (out.length + (Sk.blockOf s block every k r).length) with h2 | h2
        · have hres : Sk.openN (F.take n) (g + 1) out.length bs (min (k * block) s.length) = (4, [], 0) := by
            rw [Sk.openN, if_pos (by omega)]
            by_cases h9 : n < out.length + 9
            · rw [if_pos (by omega)]
            · rw [if_neg (by omega)]
              have hT : F.take n = out ++ (Sk.hdr (k % every == 0) (Sk.endOf s block k - k * block) P.length (Sk.sumOf P) ++ (P ++ rest).take (n - out.length - 9)) := by
                rw [hFe, hB]
                rw [List.take_append, List.take_of_length_le (by omega), List.append_assoc, List.take_append, List.take_of_length_le (l := Sk.hdr _ _ _ _) (by rw [Sk.hdr_length]; omega), Sk.hdr_length]
              obtain ⟨hbad, _, q2, _⟩ := Sk.hdr_ok s block every hb2 hs hb1 (F.take n) out _ P k bs hk hk0 hP hT
              rw [hbad, if_neg (by decide), q2, if_pos (by omega)]
          refine ⟨fun b hb hbn => ?_, fun _ => hres⟩
          rcases List.mem_cons.1 hb with rfl | hb
          · have : out.length = n := hbn
            omega
          · have := hmem b hb
            omega
        · have hT : F.take n = out ++ (Sk.blockOf s block every k r ++ rest.take (n - (out.length + (Sk.blockOf s block every k r).length))) := by
            rw [hFe, List.take_append, List.take_of_length_le (by omega), List.take_append, List.take_of_length_le (l := Sk.blockOf _ _ _ _ _) (by omega), Nat.sub_sub]
          have hst := Sk.open_step s block every hb1 hb2 hs (F.take n) out _ k r g bs hk hk0 hT
          obtain ⟨i1, i2⟩ := Sk.open_cut s block every hb1 hb2 hs F n hn f g (k + 1) (Sk.fromOf block every k r) (out ++ Sk.blockOf s block every k r) (bs ++ [⟨k * block, Sk.endOf s block k - k * block, out.length, k % every == 0⟩]) (by omega) (by rw [List.length_append]; omega) (by rw [List.length_append]; omega) hF (by simp)
          rw [hst]
          rw [List.length_append] at i1 i2 ⊢
          refine ⟨fun b hb hbn => ?_, fun h => i2 (fun b hb => h b (List.mem_cons.2 (.inr hb)))⟩
          rcases List.mem_cons.1 hb with rfl | hb
          · have : out.length = n := hbn
            omega
          · exact i1 b hb hbn
      · have he : out.length = n := by omega
        rw [Sk.openN_end _ _ _ _ _ (by omega)]
        refine ⟨fun b hb hbn => ?_, fun h => ?_⟩
        · rcases List.mem_cons.1 hb with rfl | hb
          · exact ⟨rfl, Nat.min_eq_left (by omega)⟩
          · have := hmem b hb
            omega
        · exact absurd he (h _ (List.mem_cons.2 (.inl rfl)))
    · rw [Sk.blocksN_end _ _ _ _ _ _ _ hk] at hF
      subst hF
      omega

/-- The whole file, with a byte behind it. -/
theorem Sk.openR_behind (s : List UInt8) (block every : Nat) (hb1 : 1 ≤ block) (hb2 : block ≤ 1024) (hs : s.length ≤ 20000) (hf : (Sk.fileOf s block every).length + 1 ≤ 65536) (c : UInt8) : Sk.openR (Sk.fileOf s block every ++ [c]) = (4, [], 0) := by
  obtain ⟨rest, hr⟩ := Sk.blocksN_pre s block every s.length 0 0 [83, 75, 49]
  have hF : Sk.fileOf s block every = [83, 75, 49] ++ rest := hr
  have ht : (Sk.fileOf s block every ++ [c]).take 3 = [83, 75, 49] := by rw [hF]; rfl
  have hl : 3 ≤ (Sk.fileOf s block every).length := by rw [hF]; simp
  unfold Sk.openR
  rw [if_neg (by rw [List.length_append]; simp; omega), if_neg (by rw [ht, List.length_append]; intro h; rcases h with h | h; (have : (Sk.fileOf s block every).length + [c].length < 3 := h; have e : [c].length = 1 := rfl; omega); exact h rfl)]
  have := Sk.open_behind s block every hb1 hb2 hs (Sk.fileOf s block every) c s.length (Sk.fileOf s block every ++ [c]).length 0 0 [83, 75, 49] [] (by omega) (by rw [List.length_append]; simp) rfl (by simp)
  rw [Nat.zero_mul, Nat.zero_min] at this
  exact this

/-- The file, cut off. -/
theorem Sk.openR_cut (s : List UInt8) (block every : Nat) (hb1 : 1 ≤ block) (hb2 : block ≤ 1024) (hs : s.length ≤ 20000) (hf : (Sk.fileOf s block every).length ≤ 65536) (n : Nat) (hn : n < (Sk.fileOf s block every).length) :
    (n < 3 → Sk.openR ((Sk.fileOf s block every).take n) = (2, [], 0)) ∧
    (3 ≤ n → (∀ b ∈ Sk.fblk s block every s.length 0 0 3, b.pos = n → (Sk.openR ((Sk.fileOf s block every).take n)).1 = 0 ∧ (Sk.openR ((Sk.fileOf s block every).take n)).2.2 = b.frm) ∧
      ((∀ b ∈ Sk.fblk s block every s.length 0 0 3, b.pos ≠ n) → Sk.openR ((Sk.fileOf s block every).take n) = (4, [], 0))) := by
  obtain ⟨rest, hr⟩ := Sk.blocksN_pre s block every s.length 0 0 [83, 75, 49]
  have hF : Sk.fileOf s block every = [83, 75, 49] ++ rest := hr
  have hl : ((Sk.fileOf s block every).take n).length = n := by rw [List.length_take]; omega
  refine ⟨fun h3 => ?_, fun h3 => ?_⟩
  · unfold Sk.openR
    rw [if_neg (by omega), if_pos (.inl (by omega))]
  · have ht : ((Sk.fileOf s block every).take n).take 3 = [83, 75, 49] := by
      rw [List.take_take, Nat.min_eq_left h3, hF]; rfl
    have e : Sk.openR ((Sk.fileOf s block every).take n) = Sk.openN ((Sk.fileOf s block every).take n) n 3 [] 0 := by
      unfold Sk.openR
      rw [if_neg (by omega), if_neg (by rw [ht]; intro h; rcases h with h | h; omega; exact h rfl), hl]
    have := Sk.open_cut s block every hb1 hb2 hs (Sk.fileOf s block every) n hn s.length n 0 0 [83, 75, 49] [] (by omega) (by simp; omega) h3 rfl (by simp)
    rw [Nat.zero_mul, Nat.zero_min] at this
    rw [e]
    exact this
end Go.Proofs.YtafkpmjifgohcaaDoor

namespace Go.Proofs.YtafkpmjifgohcaaDoor

/-- From where on the blocks behind the k-th may copy. -/
def Sk.rs (block every k r : Nat) : Nat → Nat
  | 0 => Sk.fromOf block every k r
  | j + 1 => Sk.fromOf block every (k + j + 1) (Sk.rs block every k r j)

theorem Sk.rs_next (block every k r : Nat) : ∀ j, Sk.rs block every (k + 1) (Sk.fromOf block every k r) j = Sk.rs block every k r (j + 1)
  | 0 => rfl
  | j + 1 => by
    rw [Sk.rs, Sk.rs_next block every k r j, Sk.rs, show k + 1 + j + 1 = k + (j + 1) + 1 by omega]
    rfl

theorem Sk.bk_cons (b : Sk.Blk) (bs : List Sk.Blk) (j : Nat) : Sk.bk (b :: bs) (j + 1) = Sk.bk bs j := rfl
theorem Sk.bk_zero (b : Sk.Blk) (bs : List Sk.Blk) : Sk.bk (b :: bs) 0 = b := rfl

/-- The j-th block of what was packed, by its parts. -/
theorem Sk.fblk_at (s : List UInt8) (block every : Nat) (hb1 : 1 ≤ block) (hb2 : block ≤ 1024) (hs : s.length ≤ 20000) (F : List UInt8) : ∀ f k r out, s.length ≤ k + f → Sk.blocksN s block every f k r out = F → ∀ j, (k + j) * block < s.length →
    j < (Sk.fblk s block every f k r out.length).length ∧ (Sk.bk (Sk.fblk s block every f k r out.length) j).frm = (k + j) * block ∧ (Sk.bk (Sk.fblk s block every f k r out.length) j).size = Sk.endOf s block (k + j) - (k + j) * block ∧ (Sk.bk (Sk.fblk s block every f k r out.length) j).fresh = ((k + j) % every == 0) ∧
    Sk.packedOf F (Sk.bk (Sk.fblk s block every f k r out.length) j) = Sk.packR s (Sk.rs block every k r j) ((k + j) * block) (Sk.endOf s block (k + j)) ∧ Sk.numAt F ((Sk.bk (Sk.fblk s block every f k r out.length) j).pos + 5) 4 = Sk.sumOf (Sk.packR s (Sk.rs block every k r j) ((k + j) * block) (Sk.endOf s block (k + j)))
  | 0, k, r, out, hf, _, j, hj => by
    have : k + j ≤ (k + j) * block := Nat.le_mul_of_pos_right _ hb1
    omega
  | f + 1, k, r, out, hf, hF, j, hj => by
    have hk : k * block < s.length := Nat.lt_of_le_of_lt (Nat.mul_le_mul_right _ (by omega)) hj
    rw [Sk.fblk, if_pos hk]
    rw [Sk.blocksN, if_pos hk] at hF
    have hkb : k ≤ k * block := Nat.le_mul_of_pos_right _ hb1
    cases j with
    | zero =>
      simp only [Nat.add_zero] at hj ⊢
      rw [Sk.bk_zero]
      obtain ⟨rest, hr⟩ := Sk.blocksN_pre s block every f (k + 1) (Sk.fromOf block every k r) (out ++ Sk.blockOf s block every k r)
      have hE : k * block < Sk.endOf s block k := by unfold Sk.endOf; omega
      have hE2 : Sk.endOf s block k ≤ s.length := by unfold Sk.endOf; omega
      have hE3 : Sk.endOf s block k ≤ k * block + block := by unfold Sk.endOf; omega
      obtain ⟨P, hP⟩ : ∃ P, P = Sk.packR s (Sk.fromOf block every k r) (k * block) (Sk.endOf s block k) := ⟨_, rfl⟩
      have hPl : P.length ≤ 2 * (Sk.endOf s block k - k * block) := by rw [hP]; exact Sk.packR_length _ _ _ _ (by omega) hE2
      have hB : Sk.blockOf s block every k r = Sk.hdr (k % every == 0) (Sk.endOf s block k - k * block) P.length (Sk.sumOf P) ++ P := by rw [hP]; rfl
      have hFe : F = out ++ (Sk.hdr (k % every == 0) (Sk.endOf s block k - k * block) P.length (Sk.sumOf P) ++ (P ++ rest)) := by
        rw [← hF, hr, hB]; simp only [List.append_assoc]
      obtain ⟨_, _, q2, q3⟩ := Sk.hdr_parts out (P ++ rest) (k % every == 0) (Sk.endOf s block k - k * block) P.length (Sk.sumOf P) (by omega) (by omega) (Sk.sum_lt P)
      rw [← hFe] at q2 q3
      have hrs : Sk.rs block every k r 0 = Sk.fromOf block every k r := rfl
      rw [hrs, ← hP]
      refine ⟨by simp, rfl, rfl, rfl, ?_, q3⟩
      show Sk.sub F (out.length + 9) (out.length + 9 + Sk.numAt F (out.length + 3) 2) = P
      rw [q2]
      have := Sk.sub_mid (out ++ Sk.hdr (k % every == 0) (Sk.endOf s block k - k * block) P.length (Sk.sumOf P)) P rest 0 P.length (Nat.le_refl _)
      rw [List.length_append, Sk.hdr_length, Nat.add_zero, List.append_assoc, ← hFe] at this
      rw [this]
      unfold Sk.sub
      simp
    | succ j =>
      rw [Sk.bk_cons]
      have ih := Sk.fblk_at s block every hb1 hb2 hs F f (k + 1) (Sk.fromOf block every k r) (out ++ Sk.blockOf s block every k r) (by omega) hF j (by rw [show k + 1 + j = k + (j + 1) by omega]; exact hj)
      rw [List.length_append, Sk.rs_next, show k + 1 + j = k + (j + 1) by omega] at ih
      refine ⟨by rw [List.length_cons]; omega, ih.2⟩

theorem Sk.rs_le (block every : Nat) : ∀ j, Sk.rs block every 0 0 j ≤ j * block
  | 0 => by
    show Sk.fromOf block every 0 0 ≤ _
    unfold Sk.fromOf
    split <;> omega
  | j + 1 => by
    have := Sk.rs_le block every j
    rw [Sk.rs]
    unfold Sk.fromOf
    rw [Nat.zero_add]
    split
    · exact Nat.le_refl _
    · rw [Nat.add_mul]; omega

/-- Up to each block, all that was packed is read. -/
theorem Sk.upto_file (s : List UInt8) (block every : Nat) (hb1 : 1 ≤ block) (hb2 : block ≤ 1024) (hs : s.length ≤ 20000) : ∀ k, k * block < s.length → Sk.upto (Sk.fileOf s block every) (Sk.fblk s block every s.length 0 0 3) k = .good (Sk.sub s (Sk.rs block every 0 0 k) (Sk.endOf s block k))
  | k, hk => by
    have hat := Sk.fblk_at s block every hb1 hb2 hs (Sk.fileOf s block every) s.length 0 0 [83, 75, 49] (by omega) rfl k (by rw [Nat.zero_add]; exact hk)
    rw [Nat.zero_add, show ([83, 75, 49] : List UInt8).length = 3 from rfl] at hat
    obtain ⟨_, h1, h2, h3, h4, h5⟩ := hat
    have hE : k * block < Sk.endOf s block k := by unfold Sk.endOf; omega
    have hE2 : Sk.endOf s block k ≤ s.length := by unfold Sk.endOf; omega
    have hrl := Sk.rs_le block every k
    have hstep : ∀ out, out = Sk.sub s (Sk.rs block every 0 0 k) (k * block) → Sk.atB (Sk.fileOf s block every) (Sk.bk (Sk.fblk s block every s.length 0 0 3) k) k out = .good (Sk.sub s (Sk.rs block every 0 0 k) (Sk.endOf s block k)) := fun out ho => by
      unfold Sk.atB
      rw [h4, h5, if_pos rfl, h2, ho, Sk.unp_packR s _ _ _ hrl (by omega) hE2]
    cases k with
    | zero =>
      rw [Sk.upto]
      refine hstep [] ?_
      have : Sk.rs block every 0 0 0 = 0 := by
        show Sk.fromOf block every 0 0 = 0
        unfold Sk.fromOf
        split <;> omega
      rw [this, Nat.zero_mul, Sk.sub_self]
    | succ k =>
      cases hfr : (Sk.bk (Sk.fblk s block every s.length 0 0 3) (k + 1)).fresh with
      | true =>
        rw [Sk.upto_fresh _ _ _ hfr]
        refine hstep [] ?_
        rw [h3] at hfr
        have : Sk.rs block every 0 0 (k + 1) = (k + 1) * block := by
          rw [Sk.rs, Nat.zero_add]
          unfold Sk.fromOf
          rw [if_pos (by simpa using hfr)]
        rw [this, Sk.sub_self]
      | false =>
        have hk2 : k * block < s.length := Nat.lt_of_le_of_lt (Nat.mul_le_mul_right _ (by omega)) hk
        have ih := Sk.upto_file s block every hb1 hb2 hs k hk2
        rw [Sk.upto_step _ _ _ hfr _ ih]
        refine hstep _ ?_
        rw [h3] at hfr
        have e1 : Sk.rs block every 0 0 (k + 1) = Sk.rs block every 0 0 k := by
          rw [Sk.rs, Nat.zero_add]
          unfold Sk.fromOf
          rw [if_neg (by simpa using hfr)]
        have e2 : Sk.endOf s block k = (k + 1) * block := by
          unfold Sk.endOf
          rw [Nat.add_mul, Nat.one_mul] at hk ⊢
          exact Nat.min_eq_left (by omega)
        rw [e1, e2]

/-- The data of the first m blocks. -/
theorem Sk.dataN_file (s : List UInt8) (block every : Nat) (hb1 : 1 ≤ block) (hb2 : block ≤ 1024) (hs : s.length ≤ 20000) (first : Nat) : ∀ m, (∀ j, j < m → (first + j) * block < s.length) → Sk.dataN (Sk.fileOf s block every) (Sk.fblk s block every s.length 0 0 3) first m = .good (Sk.sub s (first * block) (min ((first + m) * block) s.length))
  | 0, _ => by
    rw [Sk.dataN, Nat.add_zero]
    have : Sk.sub s (first * block) (min (first * block) s.length) = [] := by
      unfold Sk.sub
      rw [show min (first * block) s.length - first * block = 0 by omega]
      simp
    rw [this]
  | m + 1, h => by
    have ih := Sk.dataN_file s block every hb1 hb2 hs first m (fun j hj => h j (by omega))
    have hk := h m (by omega)
    rw [Sk.dataN_step ih, Sk.upto_file s block every hb1 hb2 hs (first + m) hk]
    have hat := Sk.fblk_at s block every hb1 hb2 hs (Sk.fileOf s block every) s.length 0 0 [83, 75, 49] (by omega) rfl (first + m) (by rw [Nat.zero_add]; exact hk)
    rw [Nat.zero_add, show ([83, 75, 49] : List UInt8).length = 3 from rfl] at hat
    have hE : (first + m) * block < Sk.endOf s block (first + m) := by unfold Sk.endOf; omega
    have hE2 : Sk.endOf s block (first + m) ≤ s.length := by unfold Sk.endOf; omega
    have hrl := Sk.rs_le block every (first + m)
    have hfm : first * block ≤ (first + m) * block := Nat.mul_le_mul_right _ (by omega)
    dsimp only
    rw [hat.2.2.1, ← Sk.sub_app s _ ((first + m) * block) _ hrl (by omega) hE2, List.length_append, Sk.sub_length _ _ _ (by omega), Sk.sub_length _ _ _ hE2, Nat.add_sub_cancel]
    have hd : (Sk.sub s (Sk.rs block every 0 0 (first + m)) ((first + m) * block) ++ Sk.sub s ((first + m) * block) (Sk.endOf s block (first + m))).drop ((first + m) * block - Sk.rs block every 0 0 (first + m)) = Sk.sub s ((first + m) * block) (Sk.endOf s block (first + m)) := by
      rw [List.drop_append_of_le_length (by rw [Sk.sub_length _ _ _ (by omega)]; exact Nat.le_refl _), List.drop_of_length_le (by rw [Sk.sub_length _ _ _ (by omega)]; exact Nat.le_refl _), List.nil_append]
    rw [hd, Nat.min_eq_left (by omega), Sk.sub_app s _ _ _ hfm (by omega) hE2]
    have : min ((first + (m + 1)) * block) s.length = Sk.endOf s block (first + m) := by
      rw [← Nat.add_assoc, Nat.add_mul (first + m) 1 block, Nat.one_mul]; rfl
    rw [this]
end Go.Proofs.YtafkpmjifgohcaaDoor

namespace Go.Proofs.YtafkpmjifgohcaaDoor

theorem Sk.flush_length (run : List UInt8) : (Sk.flush run).length = run.length + min run.length 1 := by
  unfold Sk.flush
  split
  · next h => subst h; rfl
  · next h =>
    have := List.length_pos_iff.2 h
    rw [List.length_cons]; omega
theorem Sk.copyOf_length (b c : Nat) : (Sk.copyOf b c).length = 3 := by simp [Sk.copyOf, Sk.le_length]

/-- No block is longer than its bytes, and one more for each 128. -/
theorem Sk.packRN_small (s : List UInt8) (r t p0 : Nat) : ∀ k p out run, run.length ≤ 128 → p0 + run.length ≤ p → p ≤ t → t ≤ p + k → out.length ≤ (p - p0 - run.length) + (p - p0 - run.length) / 128 →
    (Sk.packRN s r t k p out run).length ≤ (t - p0) + (t - p0 + 127) / 128
  | 0, p, out, run, h1, h2, h3, h4, h5 => by
    rw [Sk.packRN, List.length_append, Sk.flush_length]
    omega
  | k + 1, p, out, run, h1, h2, h3, h4, h5 => by
    by_cases hp : p < t
    · rw [Sk.packRN, if_pos hp]
      by_cases hb : 4 ≤ (Sk.best s r p t).1
      · rw [if_pos hb]
        obtain ⟨l1, l2, l3⟩ := Sk.best_le s r p t (by omega)
        refine Sk.packRN_small s r t p0 k _ _ [] (by simp) (by simp; omega) l1 (by omega) ?_
        simp only [List.length_append, Sk.flush_length, Sk.copyOf_length, List.length_nil, Nat.sub_zero]
        omega
      · rw [if_neg hb]
        by_cases h128 : run.length = 128
        · rw [if_pos h128]
          refine Sk.packRN_small s r t p0 k _ _ _ (by simp) (by simp; omega) (by omega) (by omega) ?_
          simp only [List.length_append, Sk.flush_length, List.length_cons, List.length_nil]
          omega
        · rw [if_neg h128]
          refine Sk.packRN_small s r t p0 k _ _ _ (by simp; omega) (by simp; omega) (by omega) (by omega) ?_
          simp only [List.length_append, List.length_cons, List.length_nil]
          have e : p + 1 - p0 - (run.length + (0 + 1)) = p - p0 - run.length := by omega
          rw [e]; exact h5
    · rw [Sk.packRN_end _ _ _ _ _ _ _ hp, List.length_append, Sk.flush_length]
      omega

theorem Sk.packR_small (s : List UInt8) (r p t : Nat) (h : p ≤ t) : (Sk.packR s r p t).length ≤ (t - p) + (t - p + 127) / 128 :=
  Sk.packRN_small s r t p (t - p) p [] [] (by simp) (by simp) h (by omega) (by simp)

/-- What a block may have beyond its bytes, from the k-th on. -/
def Sk.extra (s : List UInt8) (block : Nat) : Nat → Nat → Nat
  | 0, _ => 0
  | f + 1, k => if k * block < s.length then 9 + (Sk.endOf s block k - k * block + 127) / 128 + Sk.extra s block f (k + 1) else 0

theorem Sk.extra_end (s : List UInt8) (block f k : Nat) (h : ¬ k * block < s.length) : Sk.extra s block f k = 0 := by
  cases f
  · rfl
  · rw [Sk.extra, if_neg h]

theorem Sk.blocksN_small (s : List UInt8) (block every : Nat) (hb : 1 ≤ block) : ∀ f k r out, (Sk.blocksN s block every f k r out).length ≤ out.length + (s.length - k * block) + Sk.extra s block f k
  | 0, k, r, out => by rw [Sk.blocksN, Sk.extra]; omega
  | f + 1, k, r, out => by
    by_cases h : k * block < s.length
    · rw [Sk.blocksN, if_pos h, Sk.extra, if_pos h]
      have ih := Sk.blocksN_small s block every hb f (k + 1) (Sk.fromOf block every k r) (out ++ Sk.blockOf s block every k r)
      have hp := Sk.packR_small s (Sk.fromOf block every k r) (k * block) (Sk.endOf s block k) (by unfold Sk.endOf; omega)
      have hl : (Sk.blockOf s block every k r).length = 9 + (Sk.packR s (Sk.fromOf block every k r) (k * block) (Sk.endOf s block k)).length := by
        unfold Sk.blockOf
        rw [List.length_append, Sk.hdr_length]
      rw [List.length_append, hl, Nat.add_mul k 1 block, Nat.one_mul] at ih
      have he : Sk.endOf s block k = min (k * block + block) s.length := rfl
      generalize Sk.endOf s block k = E at *
      generalize k * block = kb at *
      omega
    · rw [Sk.blocksN, if_neg h]; omega

theorem Sk.fileOf_small (s : List UInt8) (block every : Nat) (hb : 1 ≤ block) : (Sk.fileOf s block every).length ≤ 3 + s.length + Sk.extra s block s.length 0 := by
  have := Sk.blocksN_small s block every hb s.length 0 0 [83, 75, 49]
  simp only [List.length_cons, List.length_nil, Nat.zero_mul, Nat.sub_zero] at this
  exact this

/-! A byte again and again. -/
theorem Sk.sameN_all (s : List UInt8) (e p : Nat) : ∀ k n, (∀ i, n ≤ i → i < n + k → Sk.gt s (e + i) = Sk.gt s (p + i)) → Sk.sameN s e p k n = n + k
  | 0, n, _ => rfl
  | k + 1, n, h => by
    rw [Sk.sameN, if_pos (h n (Nat.le_refl _) (by omega)), Sk.sameN_all s e p k (n + 1) (fun i h1 h2 => h i (by omega) (by omega))]
    omega

theorem Sk.best_const (s : List UInt8) (x : UInt8) (hs : ∀ i, i < s.length → Sk.gt s i = x) (r p t : Nat) (hr : r < p) (hp : p ≤ t) (ht : t ≤ s.length) : (Sk.best s r p t).1 = min (t - p) 131 := by
  unfold Sk.best
  obtain ⟨k, hk⟩ : ∃ k, min (p - r) 65535 = k + 1 := ⟨min (p - r) 65535 - 1, by omega⟩
  rw [hk, Sk.bestN]
  have hsame : Sk.sameN s (p - 1) p (min (t - p) 131) 0 = min (t - p) 131 := by
    rw [Sk.sameN_all _ _ _ _ _ (fun i _ h2 => by rw [hs _ (by omega), hs _ (by omega)])]
    omega
  rw [hsame]
  split
  · rw [Sk.bestN_full _ _ _ _ _ _ _ (Nat.le_refl _)]
  · rw [Sk.bestN_full _ _ _ _ _ _ _ (by omega)]
    show (0 : Nat) = _
    omega

/-- Fewer than four are no copy. -/
theorem Sk.packRN_tail (s : List UInt8) (r t : Nat) : ∀ k p out run, t - p < 4 → p ≤ t → run.length + (t - p) ≤ 128 → t ≤ p + k → (Sk.packRN s r t k p out run).length ≤ out.length + run.length + (t - p) + 1
  | 0, p, out, run, h1, h2, h3, h4 => by
    rw [Sk.packRN, List.length_append, Sk.flush_length]
    omega
  | k + 1, p, out, run, h1, h2, h3, h4 => by
    by_cases hp : p < t
    · obtain ⟨l1, _, _⟩ := Sk.best_le s r p t (by omega)
      rw [Sk.packRN, if_pos hp, if_neg (by omega), if_neg (by omega)]
      have := Sk.packRN_tail s r t k (p + 1) out (run ++ [Sk.gt s p]) (by omega) (by omega) (by simp; omega) (by omega)
      simp only [List.length_append, List.length_cons, List.length_nil] at this
      omega
    · rw [Sk.packRN_end _ _ _ _ _ _ _ hp, List.length_append, Sk.flush_length]
      omega

theorem Sk.packRN_const (s : List UInt8) (x : UInt8) (hs : ∀ i, i < s.length → Sk.gt s i = x) (r t : Nat) (ht : t ≤ s.length) : ∀ k p out, r < p → p ≤ t → t ≤ p + k → (Sk.packRN s r t k p out []).length ≤ out.length + 3 * ((t - p) / 131) + 4
  | 0, p, out, h1, h2, h3 => by
    rw [Sk.packRN, List.length_append, Sk.flush_length]
    simp
    omega
  | k + 1, p, out, h1, h2, h3 => by
    by_cases h4 : t - p < 4
    · have := Sk.packRN_tail s r t (k + 1) p out [] h4 h2 (by simp; omega) h3
      simp only [List.length_nil] at this
      omega
    · have hb := Sk.best_const s x hs r p t h1 h2 ht
      rw [Sk.packRN, if_pos (by omega), if_pos (by omega)]
      have := Sk.packRN_const s x hs r t ht k (p + (Sk.best s r p t).1) (out ++ Sk.flush [] ++ Sk.copyOf (Sk.best s r p t).2 (Sk.best s r p t).1) (by omega) (by omega) (by omega)
      simp only [List.length_append, Sk.copyOf_length, Sk.flush_length, List.length_nil] at this
      rw [hb] at this ⊢
      by_cases h5 : t - p < 131
      · rw [Nat.min_eq_left (by omega)] at this ⊢
        rw [Sk.packRN_end _ _ _ _ _ _ _ (by omega)]
        simp only [List.length_append, Sk.copyOf_length, Sk.flush_length, List.length_nil]
        omega
      · rw [Nat.min_eq_right (by omega)] at this ⊢
        omega

/-- A block of the same byte. -/
theorem Sk.packR_const (s : List UInt8) (x : UInt8) (hs : ∀ i, i < s.length → Sk.gt s i = x) (p t : Nat) (hp : p ≤ t) (ht : t ≤ s.length) (hl : t - p ≤ 1000) : (Sk.packR s 0 p t).length ≤ 28 := by
  rcases Nat.eq_zero_or_pos p with e | e
  · subst e
    unfold Sk.packR
    rw [Nat.sub_zero]
    cases t with
    | zero => simp [Sk.packRN, Sk.flush]
    | succ t =>
      have hb0 : (Sk.best s 0 0 (t + 1)).1 = 0 := rfl
      rw [Sk.packRN, if_pos (by omega), hb0, if_neg (by omega), if_neg (by simp), List.nil_append]
      by_cases h4 : t < 4
      · have := Sk.packRN_tail s 0 (t + 1) t (0 + 1) [] [Sk.gt s 0] (by omega) (by omega) (by simp; omega) (by omega)
        simp only [List.length_nil, List.length_cons] at this
        omega
      · obtain ⟨k, rfl⟩ : ∃ k, t = k + 1 := ⟨t - 1, by omega⟩
        have hb := Sk.best_const s x hs 0 (0 + 1) (k + 1 + 1) (by omega) (by omega) ht
        rw [Sk.packRN, if_pos (by omega), if_pos (by omega)]
        have := Sk.packRN_const s x hs 0 (k + 1 + 1) ht k (0 + 1 + (Sk.best s 0 (0 + 1) (k + 1 + 1)).1) ([] ++ Sk.flush [Sk.gt s 0] ++ Sk.copyOf (Sk.best s 0 (0 + 1) (k + 1 + 1)).2 (Sk.best s 0 (0 + 1) (k + 1 + 1)).1) (by omega) (by omega) (by omega)
        simp only [List.length_append, Sk.copyOf_length, Sk.flush_length, List.length_nil, List.length_cons] at this
        rw [hb] at this ⊢
        by_cases h5 : k + 1 < 131
        · rw [Nat.min_eq_left (by omega)] at this ⊢
          rw [show k + 1 + 1 - (0 + 1 + (k + 1 + 1 - (0 + 1))) = 0 by omega] at this
          omega
        · rw [Nat.min_eq_right (by omega)] at this ⊢
          omega
  · have := Sk.packRN_const s x hs 0 t ht (t - p) p [] e hp (by omega)
    unfold Sk.packR
    simp only [List.length_nil] at this
    omega

theorem Sk.blocksN_const (s : List UInt8) (x : UInt8) (hs : ∀ i, i < s.length → Sk.gt s i = x) (hl : s.length ≤ 5000) : ∀ f k out, (Sk.blocksN s 1000 100 f k 0 out).length ≤ out.length + 37 * ((s.length + 999) / 1000 - k)
  | 0, k, out => by rw [Sk.blocksN]; omega
  | f + 1, k, out => by
    by_cases h : k * 1000 < s.length
    · rw [Sk.blocksN, if_pos h]
      have hf : Sk.fromOf 1000 100 k 0 = 0 := by unfold Sk.fromOf; split <;> omega
      have hE : Sk.endOf s 1000 k = min (k * 1000 + 1000) s.length := rfl
      have hp := Sk.packR_const s x hs (k * 1000) (Sk.endOf s 1000 k) (by omega) (by omega) (by omega)
      have hlb : (Sk.blockOf s 1000 100 k 0).length = 9 + (Sk.packR s 0 (k * 1000) (Sk.endOf s 1000 k)).length := by
        unfold Sk.blockOf
        rw [List.length_append, Sk.hdr_length, hf]
      rw [hf]
      have ih := Sk.blocksN_const s x hs hl f (k + 1) (out ++ Sk.blockOf s 1000 100 k 0)
      rw [List.length_append, hlb] at ih
      omega
    · rw [Sk.blocksN, if_neg h]; omega

theorem Sk.fileOf_const (s : List UInt8) (x : UInt8) (hs : ∀ i, i < s.length → Sk.gt s i = x) (hl : s.length ≤ 5000) : (Sk.fileOf s 1000 100).length ≤ 3 + 37 * ((s.length + 999) / 1000) := by
  have := Sk.blocksN_const s x hs hl s.length 0 [83, 75, 49]
  simp only [List.length_cons, List.length_nil, Nat.sub_zero] at this
  exact this
end Go.Proofs.YtafkpmjifgohcaaDoor
