/- Plain functions on lists of bytes: what the loops of the program and of the document's answer compute, and the laws on them. -/
namespace Go.Proofs.YtafkpmjifgohcaaDoor.Sk

/-- The byte at a place (0 beyond the end). -/
def gt (s : List UInt8) (i : Nat) : UInt8 := s.getD i 0

/-- How many bytes are the same from two places on: k more at most, n so far. -/
def sameN (s : List UInt8) (e p : Nat) : Nat → Nat → Nat
  | 0, n => n
  | k + 1, n => if gt s (e + n) = gt s (p + n) then sameN s e p k (n + 1) else n

theorem sameN_le (s : List UInt8) (e p : Nat) : ∀ k n, n ≤ sameN s e p k n ∧ sameN s e p k n ≤ n + k
  | 0, n => by simp [sameN]
  | k + 1, n => by
    unfold sameN
    split
    · have := sameN_le s e p k (n + 1); omega
    · omega

/-- The best distance of those from d on, k of them: (how many bytes, how far). -/
def bestN (s : List UInt8) (p most : Nat) : Nat → Nat → Nat → Nat → Nat × Nat
  | 0, _, best, far => (best, far)
  | k + 1, d, best, far => if best < sameN s (p - d) p most 0 then bestN s p most k (d + 1) (sameN s (p - d) p most 0) d else bestN s p most k (d + 1) best far

theorem bestN_full (s : List UInt8) (p most : Nat) : ∀ k d best far, most ≤ best → bestN s p most k d best far = (best, far)
  | 0, _, _, _, _ => rfl
  | k + 1, d, best, far, h => by
    have := (sameN_le s (p - d) p most 0).2
    rw [bestN, if_neg (by omega)]
    exact bestN_full s p most k (d + 1) best far h

theorem bestN_le (s : List UInt8) (p most : Nat) : ∀ k d best far, best ≤ most → far < d → (bestN s p most k d best far).1 ≤ most ∧ (bestN s p most k d best far).2 < d + k
  | 0, _, _, _, h, h2 => ⟨h, h2⟩
  | k + 1, d, best, far, h, h2 => by
    have := (sameN_le s (p - d) p most 0).2
    unfold bestN
    split
    · have := bestN_le s p most k (d + 1) (sameN s (p - d) p most 0) d (by omega) (by omega); omega
    · have := bestN_le s p most k (d + 1) best far h (by omega); omega

/-- The two halves of the sum. -/
def sumN : List UInt8 → Nat → Nat → Nat × Nat
  | [], a, b => (a, b)
  | c :: l, a, b => sumN l ((a + c.toNat) % 65521) ((b + (a + c.toNat) % 65521) % 65521)

/-- The sum of bytes. -/
def sumOf (l : List UInt8) : Nat := (sumN l 1 0).2 * 65536 + (sumN l 1 0).1

theorem sumN_lt : ∀ (l : List UInt8) a b, a < 65521 → b < 65521 → (sumN l a b).1 < 65521 ∧ (sumN l a b).2 < 65521
  | [], _, _, ha, hb => ⟨ha, hb⟩
  | c :: l, a, b, _, _ => sumN_lt l _ _ (Nat.mod_lt _ (by decide)) (Nat.mod_lt _ (by decide))

/-- A number as so many bytes, the lowest first. -/
def le (n : Nat) : Nat → List UInt8
  | 0 => []
  | k + 1 => UInt8.ofNat (n % 256) :: le (n / 256) k

theorem le_length : ∀ k n, (le n k).length = k
  | 0, _ => rfl
  | k + 1, n => by simp [le, le_length k]

/-- A copy's three bytes. -/
def copyOf (back count : Nat) : List UInt8 := UInt8.ofNat (128 + count - 4) :: le back 2

/-- Plain bytes as runs: k runs at most. -/
def runsN : Nat → List UInt8 → List UInt8
  | 0, _ => []
  | k + 1, l => if l = [] then [] else UInt8.ofNat (min l.length 128 - 1) :: l.take 128 ++ runsN k (l.drop 128)
def runsOf (l : List UInt8) : List UInt8 := runsN l.length l

theorem runsN_more : ∀ k j (l : List UInt8), l.length ≤ k → k ≤ j → runsN j l = runsN k l
  | 0, j, l, h, _ => by
    have : l = [] := List.length_eq_zero_iff.1 (by omega)
    subst this
    cases j <;> simp [runsN]
  | k + 1, 0, l, _, h2 => by omega
  | k + 1, j + 1, l, h, h2 => by
    unfold runsN
    by_cases hl : l = []
    · simp [hl]
    · rw [if_neg hl, if_neg hl]
      have hp : 0 < l.length := List.length_pos_iff.2 hl
      rw [runsN_more k j (l.drop 128) (by rw [List.length_drop]; omega) (by omega)]

theorem runsOf_nil : runsOf [] = [] := rfl
theorem runsOf_step (l : List UInt8) (hl : l ≠ []) : runsOf l = UInt8.ofNat (min l.length 128 - 1) :: l.take 128 ++ runsOf (l.drop 128) := by
  have hp : 0 < l.length := List.length_pos_iff.2 hl
  unfold runsOf
  obtain ⟨k, hk⟩ : ∃ k, l.length = k + 1 := ⟨l.length - 1, by omega⟩
  have e : runsN l.length l = UInt8.ofNat (min l.length 128 - 1) :: l.take 128 ++ runsN k (l.drop 128) := by
    rw [hk, runsN, if_neg hl, hk]
  rw [e, runsN_more (l.drop 128).length k (l.drop 128) (Nat.le_refl _) (by rw [List.length_drop]; omega)]

theorem runsN_length : ∀ k (l : List UInt8), (runsN k l).length ≤ 2 * l.length
  | 0, l => by simp [runsN]
  | k + 1, l => by
    unfold runsN
    split
    · simp
    · next hl =>
      have hp : 0 < l.length := List.length_pos_iff.2 hl
      have := runsN_length k (l.drop 128)
      simp only [List.length_cons, List.length_append, List.length_take, List.length_drop, List.cons_append] at this ⊢
      omega
theorem runsOf_length (l : List UInt8) : (runsOf l).length ≤ 2 * l.length := runsN_length _ _

/-- A block's header. -/
def hdr (f : Bool) (n m x : Nat) : List UInt8 := le (if f then 1 else 0) 1 ++ le n 2 ++ le m 2 ++ le x 4

theorem drop_gt (l : List UInt8) (k : Nat) (h : k < l.length) : l.drop k = gt l k :: l.drop (k + 1) := by
  rw [List.drop_eq_getElem_cons h]
  simp [gt, h]

end Go.Proofs.YtafkpmjifgohcaaDoor.Sk
