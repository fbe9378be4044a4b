/- What Open's blocks are like, and what reading across them gives. -/
import Derived.Test.YtafkpmjifgohcaaDoorPureRead
namespace Go.Proofs.YtafkpmjifgohcaaDoor

/-- Blocks as Open finds them. -/
structure Sk.Good (s : List UInt8) (bs : List Sk.Blk) (d : Nat) : Prop where
  ins : ∀ k, k < bs.length → Sk.Inside s (Sk.bk bs k)
  fst : 0 < bs.length → (Sk.bk bs 0).fresh = true ∧ (Sk.bk bs 0).frm = 0
  nxt : ∀ k, k + 1 < bs.length → (Sk.bk bs (k + 1)).frm = (Sk.bk bs k).frm + (Sk.bk bs k).size
  siz : ∀ k, k < bs.length → 1 ≤ (Sk.bk bs k).size ∧ (Sk.bk bs k).size ≤ 1024
  emp : bs.length = 0 → d = 0
  lst : ∀ k, k + 1 = bs.length → d = (Sk.bk bs k).frm + (Sk.bk bs k).size
  dat : d ≤ 20000

theorem Sk.bk_left (bs : List Sk.Blk) (b : Sk.Blk) (k : Nat) (h : k < bs.length) : Sk.bk (bs ++ [b]) k = Sk.bk bs k := by
  unfold Sk.bk
  rw [List.getD_eq_getElem?_getD, List.getD_eq_getElem?_getD, List.getElem?_append_left h]
theorem Sk.bk_last (bs : List Sk.Blk) (b : Sk.Blk) : Sk.bk (bs ++ [b]) bs.length = b := by
  unfold Sk.bk
  simp [List.getD_eq_getElem?_getD]

theorem Sk.Good.nil (s : List UInt8) : Sk.Good s [] 0 :=
  ⟨fun _ h => absurd h (Nat.not_lt_zero _), fun h => absurd h (Nat.not_lt_zero _), fun _ h => absurd h (Nat.not_lt_zero _), fun _ h => absurd h (Nat.not_lt_zero _), fun _ => rfl, fun _ h => absurd h (Nat.succ_ne_zero _), by decide⟩

theorem Sk.Good.more {s : List UInt8} {bs : List Sk.Blk} {d : Nat} (h : Sk.Good s bs d) (b : Sk.Blk) (hi : Sk.Inside s b) (hf : bs.length = 0 → b.fresh = true) (he : b.frm = d) (h1 : 1 ≤ b.size) (h2 : b.size ≤ 1024) (h3 : d + b.size ≤ 20000) : Sk.Good s (bs ++ [b]) (d + b.size) := by
  have hl : (bs ++ [b]).length = bs.length + 1 := by simp
  refine ⟨fun k hk => ?_, fun _ => ?_, fun k hk => ?_, fun k hk => ?_, fun hk => ?_, fun k hk => ?_, h3⟩
  · by_cases c : k < bs.length
    · rw [Sk.bk_left _ _ _ c]; exact h.ins k c
    · rw [show k = bs.length by omega, Sk.bk_last]; exact hi
  · by_cases c : 0 < bs.length
    · rw [Sk.bk_left _ _ _ c]; exact h.fst c
    · have c0 : bs.length = 0 := by omega
      have := Sk.bk_last bs b
      rw [c0] at this
      rw [this]
      exact ⟨hf c0, by rw [he]; exact h.emp c0⟩
  · by_cases c : k + 1 < bs.length
    · rw [Sk.bk_left _ _ _ c, Sk.bk_left _ _ _ (by omega)]; exact h.nxt k c
    · have e : k + 1 = bs.length := by omega
      rw [Sk.bk_left _ _ k (by omega), e, Sk.bk_last, he]; exact h.lst k e
  · by_cases c : k < bs.length
    · rw [Sk.bk_left _ _ _ c]; exact h.siz k c
    · rw [show k = bs.length by omega, Sk.bk_last]; exact ⟨h1, h2⟩
  · omega
  · rw [show k = bs.length by omega, Sk.bk_last, he]

theorem Sk.openN_good (s : List UInt8) : ∀ f p bs d, 3 ≤ p → Sk.Good s bs d → Sk.Good s (Sk.openN s f p bs d).2.1 (Sk.openN s f p bs d).2.2
  | 0, _, _, _, _, h => h
  | f + 1, p, bs, d, hp, h => by
    unfold Sk.openN
    split
    · split
      · exact Sk.Good.nil s
      · split
        · exact Sk.Good.nil s
        · next hbad =>
          split
          · exact Sk.Good.nil s
          · have hb : Sk.badHdr s p bs d = false := by simpa using hbad
            unfold Sk.badHdr at hb
            simp only [Bool.or_eq_false_iff, decide_eq_false_iff_not, Bool.and_eq_false_iff] at hb
            refine Sk.openN_good s f _ _ _ (by omega) (h.more ⟨d, Sk.numAt s (p + 1) 2, p, (Sk.gt s p).toNat == 1⟩ ⟨hp, by show p + 9 + Sk.numAt s (p + 3) 2 ≤ _; omega⟩ (fun h0 => ?_) rfl (by show 1 ≤ Sk.numAt s (p + 1) 2; omega) (by show Sk.numAt s (p + 1) 2 ≤ 1024; omega) (by show d + Sk.numAt s (p + 1) 2 ≤ 20000; omega))
            rcases hb.1.2 with h' | h'
            · have := List.length_eq_zero_iff.1 h0
              subst this
              cases h'
            · show ((Sk.gt s p).toNat == 1) = true
              simpa using h'
    · exact h

theorem Sk.openR_good (s : List UInt8) : Sk.Good s (Sk.openR s).2.1 (Sk.openR s).2.2 := by
  unfold Sk.openR
  split
  · exact Sk.Good.nil s
  · split
    · exact Sk.Good.nil s
    · exact Sk.openN_good s _ _ _ _ (by decide) (Sk.Good.nil s)

section
variable {s : List UInt8} {bs : List Sk.Blk} {d : Nat}

theorem Sk.Good.lastF_fresh (h : Sk.Good s bs d) : ∀ k, k < bs.length → (Sk.bk bs (Sk.lastF bs k)).fresh = true
  | 0, hk => (h.fst hk).1
  | k + 1, hk => by
    unfold Sk.lastF
    split
    · assumption
    · exact h.lastF_fresh k (by omega)

theorem Sk.lastF_of_fresh (bs : List Sk.Blk) : ∀ k, (Sk.bk bs k).fresh = true → Sk.lastF bs k = k
  | 0, _ => rfl
  | k + 1, h => by rw [Sk.lastF, if_pos h]
theorem Sk.lastF_not_fresh (bs : List Sk.Blk) (k : Nat) (h : (Sk.bk bs (k + 1)).fresh = false) : Sk.lastF bs (k + 1) = Sk.lastF bs k := by
  rw [Sk.lastF, if_neg (by rw [h]; decide)]

theorem Sk.lastF_ge (bs : List Sk.Blk) (first : Nat) (hf : (Sk.bk bs first).fresh = true) : ∀ m, first ≤ Sk.lastF bs (first + m)
  | 0 => by rw [Nat.add_zero, Sk.lastF_of_fresh bs first hf]; exact Nat.le_refl _
  | m + 1 => by
    rw [← Nat.add_assoc, Sk.lastF]
    split
    · omega
    · exact Sk.lastF_ge bs first hf m

theorem Sk.Good.frm_le (h : Sk.Good s bs d) (i : Nat) : ∀ m, i + m < bs.length → (Sk.bk bs i).frm ≤ (Sk.bk bs (i + m)).frm
  | 0, _ => Nat.le_refl _
  | m + 1, hm => by
    have := h.frm_le i m (by omega)
    have := h.nxt (i + m) (by omega)
    rw [← Nat.add_assoc]
    omega

theorem Sk.upto_fresh (s : List UInt8) (bs : List Sk.Blk) : ∀ k, (Sk.bk bs k).fresh = true → Sk.upto s bs k = Sk.atB s (Sk.bk bs k) k []
  | 0, _ => rfl
  | k + 1, h => by rw [Sk.upto, if_pos h]

theorem Sk.atB_good {b : Sk.Blk} {k : Nat} {out o : List UInt8} (h : Sk.atB s b k out = .good o) : ∃ m, o = out ++ m ∧ m.length = b.size := by
  unfold Sk.atB at h
  split at h
  · cases hu : Sk.unp (Sk.packedOf s b) b.size out with
    | none => rw [hu] at h; cases h
    | some o' => rw [hu] at h; cases h; exact Sk.unp_some hu
  · cases h
theorem Sk.atB_bad {b : Sk.Blk} {k : Nat} {out : List UInt8} {w j : Nat} (h : Sk.atB s b k out = .bad w j) : j = k ∧ (w = 6 ∨ w = 7) := by
  unfold Sk.atB at h
  split at h
  · cases hu : Sk.unp (Sk.packedOf s b) b.size out with
    | none => rw [hu] at h; cases h; exact ⟨rfl, .inr rfl⟩
    | some o' => rw [hu] at h; cases h
  · cases h; exact ⟨rfl, .inl rfl⟩

/-- What is read behind a block that is good. -/
theorem Sk.upto_step (s : List UInt8) (bs : List Sk.Blk) (k : Nat) (hk : (Sk.bk bs (k + 1)).fresh = false) (out : List UInt8) (h : Sk.upto s bs k = .good out) : Sk.upto s bs (k + 1) = Sk.atB s (Sk.bk bs (k + 1)) (k + 1) out := by
  rw [Sk.upto, if_neg (by rw [hk]; decide), h]
theorem Sk.upto_stay (s : List UInt8) (bs : List Sk.Blk) (k : Nat) (hk : (Sk.bk bs (k + 1)).fresh = false) (w j : Nat) (h : Sk.upto s bs k = .bad w j) : Sk.upto s bs (k + 1) = .bad w j := by
  rw [Sk.upto, if_neg (by rw [hk]; decide), h]

/-- The data of the blocks from first on, m of them. -/
def Sk.dataN (s : List UInt8) (bs : List Sk.Blk) (first : Nat) : Nat → Sk.Got
  | 0 => .good []
  | m + 1 => match Sk.dataN s bs first m with
    | .bad w j => .bad w j
    | .good data => match Sk.upto s bs (first + m) with
      | .bad w j => .bad w j
      | .good out => .good (data ++ out.drop (out.length - (Sk.bk bs (first + m)).size))

theorem Sk.dataN_step {first m : Nat} {data : List UInt8} (h : Sk.dataN s bs first m = .good data) : Sk.dataN s bs first (m + 1) = match Sk.upto s bs (first + m) with
      | .bad w j => .bad w j
      | .good out => .good (data ++ out.drop (out.length - (Sk.bk bs (first + m)).size)) := by
  rw [Sk.dataN, h]
theorem Sk.dataN_stay {first m : Nat} {w j : Nat} (h : Sk.dataN s bs first m = .bad w j) : ∀ k, Sk.dataN s bs first (m + k) = .bad w j
  | 0 => h
  | k + 1 => by rw [← Nat.add_assoc, Sk.dataN, Sk.dataN_stay h k]

theorem Sk.sub_app_left (x y : List UInt8) (a b : Nat) (h : b ≤ x.length) : Sk.sub (x ++ y) a b = Sk.sub x a b := by
  unfold Sk.sub
  rcases Nat.lt_or_ge b a with c | c
  · rw [show b - a = 0 by omega]; simp
  · rw [List.drop_append_of_le_length (by omega), List.take_append_of_le_length (by rw [List.length_drop]; omega)]
theorem Sk.sub_end (x : List UInt8) (a : Nat) : Sk.sub x a x.length = x.drop a := by
  unfold Sk.sub
  rw [List.take_of_length_le (by rw [List.length_drop]; omega)]

/-- What was read up to each block stands in the data. -/
theorem Sk.Good.data (h : Sk.Good s bs d) {first : Nat} (hf : (Sk.bk bs first).fresh = true) : ∀ m data, first + m ≤ bs.length → Sk.dataN s bs first m = .good data →
    (m = 0 → data = []) ∧ (0 < m → data.length + (Sk.bk bs first).frm = (Sk.bk bs (first + m - 1)).frm + (Sk.bk bs (first + m - 1)).size) ∧
    ∀ n, n < m → Sk.upto s bs (first + n) = .good (Sk.sub data ((Sk.bk bs (Sk.lastF bs (first + n))).frm - (Sk.bk bs first).frm) ((Sk.bk bs (first + n)).frm + (Sk.bk bs (first + n)).size - (Sk.bk bs first).frm))
  | 0, data, _, hd => by cases hd; exact ⟨fun _ => rfl, fun h => by omega, fun n hn => by omega⟩
  | m + 1, data, hm, hd => by
    refine ⟨fun h => by omega, ?_⟩
    cases hp : Sk.dataN s bs first m with
    | bad w j => rw [Sk.dataN, hp] at hd; cases hd
    | good dat0 =>
      rw [Sk.dataN_step hp] at hd
      obtain ⟨i1, i2, i3⟩ := h.data hf m dat0 (by omega) hp
      cases hu : Sk.upto s bs (first + m) with
      | bad w j => rw [hu] at hd; cases hd
      | good out =>
        rw [hu] at hd
        simp only [Sk.Got.good.injEq] at hd
        have F : (Sk.bk bs first).frm ≤ (Sk.bk bs (first + m)).frm := h.frm_le first m (by omega)
        have L0 : dat0.length + (Sk.bk bs first).frm = (Sk.bk bs (first + m)).frm := by
          rcases Nat.eq_zero_or_pos m with e | e
          · subst e; rw [i1 rfl]; simp
          · have := i2 e
            have n := h.nxt (first + m - 1) (by omega)
            rw [show first + m - 1 + 1 = first + m by omega] at n
            omega
        have key : ∃ t, t.length = (Sk.bk bs (first + m)).size ∧ out = Sk.sub dat0 ((Sk.bk bs (Sk.lastF bs (first + m))).frm - (Sk.bk bs first).frm) dat0.length ++ t := by
          cases hfr : (Sk.bk bs (first + m)).fresh with
          | true =>
            rw [Sk.upto_fresh _ _ _ hfr] at hu
            obtain ⟨t, e1, e2⟩ := Sk.atB_good hu
            refine ⟨t, e2, ?_⟩
            rw [e1, Sk.lastF_of_fresh _ _ hfr, Sk.sub_end, List.drop_eq_nil_of_le (by omega)]
          | false =>
            have hm0 : 0 < m := by
              rcases Nat.eq_zero_or_pos m with e | e
              · subst e; rw [Nat.add_zero, hf] at hfr; cases hfr
              · exact e
            have e' : first + (m - 1) + 1 = first + m := by omega
            have p := i3 (m - 1) (by omega)
            rw [← e'] at hu hfr
            rw [Sk.upto_step _ _ _ hfr _ p] at hu
            obtain ⟨t, e1, e2⟩ := Sk.atB_good hu
            rw [e'] at e2
            refine ⟨t, e2, ?_⟩
            have n := h.nxt (first + m - 1) (by omega)
            rw [show first + m - 1 + 1 = first + m by omega] at n
            rw [e1, ← e', Sk.lastF_not_fresh _ _ hfr, show (Sk.bk bs (first + (m - 1))).frm + (Sk.bk bs (first + (m - 1))).size - (Sk.bk bs first).frm = dat0.length by rw [show first + (m - 1) = first + m - 1 by omega]; omega]
        obtain ⟨t, ht, ho⟩ := key
        have hd' : data = dat0 ++ t := by
          rw [← hd, ho, List.length_append, ht, Nat.add_sub_cancel, List.drop_left]
        have hl : data.length = dat0.length + (Sk.bk bs (first + m)).size := by rw [hd', List.length_append, ht]
        refine ⟨fun _ => by rw [show first + (m + 1) - 1 = first + m by omega]; omega, fun n hn => ?_⟩
        by_cases c : n < m
        · rw [i3 n c, hd', Sk.sub_app_left]
          have := h.nxt (first + n) (by omega)
          have := h.frm_le (first + n + 1) (m - n - 1) (by omega)
          rw [show first + n + 1 + (m - n - 1) = first + m by omega] at this
          omega
        · have e : n = m := by omega
          subst e
          rw [hu, ho]
          have g := h.frm_le (Sk.lastF bs (first + n)) (first + n - Sk.lastF bs (first + n)) (by have := Sk.lastF_le bs (first + n); omega)
          rw [show Sk.lastF bs (first + n) + (first + n - Sk.lastF bs (first + n)) = first + n by have := Sk.lastF_le bs (first + n); omega] at g
          rw [show (Sk.bk bs (first + n)).frm + (Sk.bk bs (first + n)).size - (Sk.bk bs first).frm = data.length by omega, Sk.sub_end, Sk.sub_end, hd', List.drop_append_of_le_length (by omega)]

/-- The first bad one. -/
theorem Sk.dataN_bad {first : Nat} (hf : (Sk.bk bs first).fresh = true) : ∀ m w j, Sk.dataN s bs first m = .bad w j → first ≤ j ∧ j < first + m ∧ Sk.upto s bs j = .bad w j ∧ ∃ data, Sk.dataN s bs first (j - first) = .good data
  | 0, _, _, h => by cases h
  | m + 1, w, j, h => by
    cases hp : Sk.dataN s bs first m with
    | bad w' j' =>
      rw [Sk.dataN, hp] at h
      cases h
      obtain ⟨a, b, c, e⟩ := Sk.dataN_bad hf m w j hp
      exact ⟨a, by omega, c, e⟩
    | good dat0 =>
      rw [Sk.dataN_step hp] at h
      cases hu : Sk.upto s bs (first + m) with
      | good out => rw [hu] at h; cases h
      | bad w' j' =>
        rw [hu] at h
        cases h
        have hj : j = first + m := by
          cases hfr : (Sk.bk bs (first + m)).fresh with
          | true => rw [Sk.upto_fresh _ _ _ hfr] at hu; exact (Sk.atB_bad hu).1
          | false =>
            have hm0 : 0 < m := by
              rcases Nat.eq_zero_or_pos m with e | e
              · subst e; rw [Nat.add_zero, hf] at hfr; cases hfr
              · exact e
            obtain ⟨m, rfl⟩ : ∃ n, m = n + 1 := ⟨m - 1, by omega⟩
            rw [← Nat.add_assoc] at hu hfr ⊢
            cases hq : Sk.dataN s bs first m with
            | bad w' j' => rw [Sk.dataN, hq] at hp; cases hp
            | good dat1 =>
              rw [Sk.dataN_step hq] at hp
              cases hv : Sk.upto s bs (first + m) with
              | bad w' j' => rw [hv] at hp; cases hp
              | good out =>
                rw [Sk.upto_step _ _ _ hfr _ hv] at hu
                exact (Sk.atB_bad hu).1
        refine ⟨by omega, by omega, by rw [hj]; rw [hj] at hu; exact hu, dat0, by rw [hj, show first + m - first = m by omega]; exact hp⟩
end
end Go.Proofs.YtafkpmjifgohcaaDoor
