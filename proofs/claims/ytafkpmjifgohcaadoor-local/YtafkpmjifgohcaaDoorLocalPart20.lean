/- One packed byte of one block, turned (pure).
One packed byte of one block, turned: what is read (pure).
The law Back, walked: whatever the input, it returns true.
bad: a second block that is not good is told, and the first one read. -/
import Derived.Test.YtafkpmjifgohcaaDoorLocalPart10
import Derived.Test.YtafkpmjifgohcaaDoorLocalPart17
import Derived.Test.YtafkpmjifgohcaaDoorLocalPart19
import Derived.Test.YtafkpmjifgohcaaDoorLocalPart12
namespace Go.Proofs.YtafkpmjifgohcaaDoor

theorem Sk.numAt_same {F F' : List UInt8} : ∀ k i, (∀ j, j < k → Sk.gt F' (i + j) = Sk.gt F (i + j)) → Sk.numAt F' i k = Sk.numAt F i k
  | 0, _, _ => rfl
  | k + 1, i, h => by
    have ih := Sk.numAt_same (F := F) (F' := F') k (i + 1) (fun j hj => by have := h (j + 1) (by omega); rw [show i + 1 + j = i + (j + 1) by omega]; exact this)
    rw [Sk.numAt, Sk.numAt, ih, show Sk.gt F' i = Sk.gt F i from h 0 (by omega)]

theorem Sk.openN_pre (F : List UInt8) : ∀ f p bs d bs' n, Sk.openN F f p bs d = (0, bs', n) → ∃ rest, bs' = bs ++ rest
  | 0, _, bs, d, bs', n, h => by rw [Sk.openN] at h; cases h; exact ⟨[], by simp⟩
  | f + 1, p, bs, d, bs', n, h => by
    unfold Sk.openN at h
    split at h
    · split at h
      · simp at h
      · split at h
        · simp at h
        · split at h
          · simp at h
          · obtain ⟨rest, hr⟩ := Sk.openN_pre F f _ _ _ _ _ h
            exact ⟨_, by rw [hr, List.append_assoc]⟩
    · cases h; exact ⟨[], by simp⟩

/-- Open looks at headers alone. -/
theorem Sk.openN_same (F F' : List UInt8) (hl : F'.length = F.length) : ∀ f p bs d bs' n, Sk.openN F f p bs d = (0, bs', n) → (∀ b ∈ bs', ∀ i, i < 9 → Sk.gt F' (b.pos + i) = Sk.gt F (b.pos + i)) → Sk.openN F' f p bs d = (0, bs', n)
  | 0, _, _, _, _, _, h, _ => h
  | f + 1, p, bs, d, bs', n, h, hb => by
    unfold Sk.openN at h ⊢
    rw [hl]
    by_cases hp : p < F.length
    · rw [if_pos hp] at h ⊢
      by_cases h9 : F.length < p + 9
      · rw [if_pos h9] at h; simp at h
      · rw [if_neg h9] at h ⊢
        by_cases hbad : Sk.badHdr F p bs d = true
        · rw [if_pos hbad] at h; simp at h
        · rw [if_neg hbad] at h
          by_cases hL : F.length < p + 9 + Sk.numAt F (p + 3) 2
          · rw [if_pos hL] at h; simp at h
          · rw [if_neg hL] at h
            obtain ⟨rest, hr⟩ := Sk.openN_pre F f _ _ _ _ _ h
            have hin : (⟨d, Sk.numAt F (p + 1) 2, p, (Sk.gt F p).toNat == 1⟩ : Sk.Blk) ∈ bs' := by rw [hr]; simp
            have hh : ∀ i, i < 9 → Sk.gt F' (p + i) = Sk.gt F (p + i) := hb _ hin
            have e0 : Sk.gt F' p = Sk.gt F p := hh 0 (by decide)
            have e1 : Sk.numAt F' (p + 1) 2 = Sk.numAt F (p + 1) 2 := Sk.numAt_same 2 (p + 1) (fun j hj => by rw [Nat.add_assoc]; exact hh (1 + j) (by omega))
            have e3 : Sk.numAt F' (p + 3) 2 = Sk.numAt F (p + 3) 2 := Sk.numAt_same 2 (p + 3) (fun j hj => by rw [Nat.add_assoc]; exact hh (3 + j) (by omega))
            have eb : Sk.badHdr F' p bs d = Sk.badHdr F p bs d := by unfold Sk.badHdr; rw [e0, e1]
            rw [eb, if_neg hbad, e3, if_neg hL, e0, e1]
            exact Sk.openN_same F F' hl f _ _ _ _ _ h hb
    · rw [if_neg hp] at h ⊢; exact h

/-- Blocks one behind the other, up to p. -/
structure Sk.Chain (s : List UInt8) (bs : List Sk.Blk) (p : Nat) : Prop where
  nxt : ∀ k, k + 1 < bs.length → (Sk.bk bs (k + 1)).pos = (Sk.bk bs k).pos + 9 + Sk.numAt s ((Sk.bk bs k).pos + 3) 2
  lst : ∀ k, k + 1 = bs.length → p = (Sk.bk bs k).pos + 9 + Sk.numAt s ((Sk.bk bs k).pos + 3) 2

theorem Sk.openN_chain (s : List UInt8) : ∀ f p bs d bs' n, Sk.Chain s bs p → s.length ≤ p + f → p ≤ s.length → Sk.openN s f p bs d = (0, bs', n) → Sk.Chain s bs' s.length
  | 0, p, bs, d, bs', n, hc, h1, h2, h => by
    rw [Sk.openN] at h
    cases h
    rw [show s.length = p by omega]
    exact hc
  | f + 1, p, bs, d, bs', n, hc, h1, h2, h => by
    unfold Sk.openN at h
    split at h
    · split at h
      · simp at h
      · split at h
        · simp at h
        · split at h
          · simp at h
          · refine Sk.openN_chain s f _ _ _ _ _ ⟨fun k hk => ?_, fun k hk => ?_⟩ (by omega) (by omega) h
            · rw [List.length_append, List.length_singleton] at hk
              by_cases c : k + 1 < bs.length
              · rw [Sk.bk_left _ _ _ c, Sk.bk_left _ _ _ (by omega)]; exact hc.nxt k c
              · have e : k + 1 = bs.length := by omega
                rw [Sk.bk_left _ _ k (by omega), e, Sk.bk_last]; exact hc.lst k e
            · rw [List.length_append, List.length_singleton] at hk
              rw [show k = bs.length by omega, Sk.bk_last]
    · cases h
      rw [show s.length = p by omega]
      exact hc

theorem Sk.openR_chain {s : List UInt8} {bs : List Sk.Blk} {n : Nat} (h : Sk.openR s = (0, bs, n)) : Sk.Chain s bs s.length := by
  unfold Sk.openR at h
  split at h
  · simp at h
  · split at h
    · simp at h
    · next h3 =>
      exact Sk.openN_chain s _ _ _ _ _ _ ⟨fun k hk => absurd hk (Nat.not_lt_zero _), fun k hk => absurd hk (Nat.succ_ne_zero _)⟩ (by omega) (by omega) h

theorem Sk.Chain.le {s : List UInt8} {bs : List Sk.Blk} {p : Nat} (h : Sk.Chain s bs p) (i : Nat) : ∀ m, i + 1 + m < bs.length → (Sk.bk bs i).pos + 9 + Sk.numAt s ((Sk.bk bs i).pos + 3) 2 ≤ (Sk.bk bs (i + 1 + m)).pos
  | 0, hm => by rw [Nat.add_zero, h.nxt i hm]; exact Nat.le_refl _
  | m + 1, hm => by
    have := h.le i m (by omega)
    have e := h.nxt (i + 1 + m) (by omega)
    rw [show i + 1 + (m + 1) = i + 1 + m + 1 by omega, e]
    omega

theorem Sk.gt_set_ne (F : List UInt8) (a i : Nat) (x : UInt8) (h : i ≠ a) : Sk.gt (F.set a x) i = Sk.gt F i := by
  unfold Sk.gt
  rw [List.getD_eq_getElem?_getD, List.getD_eq_getElem?_getD, List.getElem?_set_ne (Ne.symm h)]
theorem Sk.sub_set_out (F : List UInt8) (a i j : Nat) (x : UInt8) (h : a < i ∨ j ≤ a) : Sk.sub (F.set a x) i j = Sk.sub F i j := by
  unfold Sk.sub
  rw [List.drop_set]
  rcases h with h | h
  · rw [if_pos h]
  · split
    · rfl
    · rw [List.take_set, List.set_eq_of_length_le (by rw [List.length_take]; omega)]
theorem Sk.sub_set_in (F : List UInt8) (a i j : Nat) (x : UInt8) (h : i ≤ a) : Sk.sub (F.set a x) i j = (Sk.sub F i j).set (a - i) x := by
  unfold Sk.sub
  rw [List.drop_set, if_neg (by omega), List.take_set]

theorem Sk.sumN_fst : ∀ (L : List UInt8) a b, a < 65521 → (Sk.sumN L a b).1 = (a + (L.map UInt8.toNat).sum) % 65521
  | [], a, b, h => by simp [Sk.sumN]; omega
  | c :: l, a, b, h => by
    rw [Sk.sumN, Sk.sumN_fst l _ _ (Nat.mod_lt _ (by decide)), List.map_cons, List.sum_cons]
    omega
theorem Sk.total_set : ∀ (L : List UInt8) i x, i < L.length → ((L.set i x).map UInt8.toNat).sum + (Sk.gt L i).toNat = (L.map UInt8.toNat).sum + x.toNat
  | [], i, x, h => absurd h (Nat.not_lt_zero _)
  | c :: l, 0, x, _ => by
    show ((x :: l).map UInt8.toNat).sum + c.toNat = _
    rw [List.map_cons, List.map_cons, List.sum_cons, List.sum_cons]
    omega
  | c :: l, i + 1, x, h => by
    have := Sk.total_set l i x (by simpa using h)
    show ((c :: l.set i x).map UInt8.toNat).sum + (Sk.gt l i).toNat = _
    rw [List.map_cons, List.map_cons, List.sum_cons, List.sum_cons]
    omega
theorem Sk.sum_set (L : List UInt8) (i : Nat) (x : UInt8) (hi : i < L.length) (hx : x ≠ Sk.gt L i) : Sk.sumOf (L.set i x) ≠ Sk.sumOf L := by
  intro he
  have h1 := Sk.sumN_lt (L.set i x) 1 0 (by decide) (by decide)
  have h2 := Sk.sumN_lt L 1 0 (by decide) (by decide)
  have f1 := Sk.sumN_fst (L.set i x) 1 0 (by decide)
  have f2 := Sk.sumN_fst L 1 0 (by decide)
  have t := Sk.total_set L i x hi
  have x1 : x.toNat < 256 := x.toNat_lt
  have x2 : (Sk.gt L i).toNat < 256 := (Sk.gt L i).toNat_lt
  have hne : x.toNat ≠ (Sk.gt L i).toNat := fun e => hx (UInt8.toNat_inj.1 e)
  unfold Sk.sumOf at he
  omega

theorem Sk.upto_same (F F' : List UInt8) (bs : List Sk.Blk) : ∀ i, (∀ j, Sk.lastF bs i ≤ j → j ≤ i → ∀ o, Sk.atB F' (Sk.bk bs j) j o = Sk.atB F (Sk.bk bs j) j o) → Sk.upto F' bs i = Sk.upto F bs i
  | 0, h => h 0 (Nat.le_refl _) (Nat.le_refl _) []
  | i + 1, h => by
    cases hf : (Sk.bk bs (i + 1)).fresh with
    | true => rw [Sk.upto_fresh _ _ _ hf, Sk.upto_fresh _ _ _ hf]; exact h (i + 1) (Sk.lastF_le _ _) (Nat.le_refl _) []
    | false =>
      have ih := Sk.upto_same F F' bs i (fun j h1 h2 => h j (by rw [Sk.lastF_not_fresh _ _ hf]; exact h1) (by omega))
      rw [Sk.upto, Sk.upto, if_neg (by rw [hf]; decide), if_neg (by rw [hf]; decide), ih]
      cases Sk.upto F bs i with
      | bad w j => rfl
      | good o => exact h (i + 1) (Sk.lastF_le _ _) (Nat.le_refl _) o

theorem Sk.dataN_same (F F' : List UInt8) (bs : List Sk.Blk) (first : Nat) : ∀ m, (∀ j, first ≤ j → j < first + m → Sk.upto F' bs j = Sk.upto F bs j) → Sk.dataN F' bs first m = Sk.dataN F bs first m
  | 0, _ => rfl
  | m + 1, h => by rw [Sk.dataN, Sk.dataN, Sk.dataN_same F F' bs first m (fun j h1 h2 => h j h1 (by omega)), h (first + m) (by omega) (by omega)]

/-- Who reads across a bad block is told of it. -/
theorem Sk.dataN_hits (F : List UInt8) (bs : List Sk.Blk) (first k w j : Nat) (hk : first ≤ k) (hb : Sk.upto F bs k = .bad w j) (hg : ∀ i, first ≤ i → i < k → ∃ o, Sk.upto F bs i = .good o) : ∀ m, k < first + m → Sk.dataN F bs first m = .bad w j
  | 0, h => by omega
  | m + 1, h => by
    by_cases c : k < first + m
    · rw [Sk.dataN, Sk.dataN_hits F bs first k w j hk hb hg m c]
    · have e : first + m = k := by omega
      have hgood : ∀ n, n ≤ m → ∃ d, Sk.dataN F bs first n = .good d := by
        intro n
        induction n with
        | zero => intro _; exact ⟨[], rfl⟩
        | succ n ih =>
          intro hn
          obtain ⟨d, hd⟩ := ih (by omega)
          obtain ⟨o, ho⟩ := hg (first + n) (by omega) (by omega)
          exact ⟨_, by rw [Sk.dataN_step hd, ho]⟩
      obtain ⟨d, hd⟩ := hgood m (Nat.le_refl _)
      rw [Sk.dataN_step hd, e, hb]
end Go.Proofs.YtafkpmjifgohcaaDoor

namespace Go.Proofs.YtafkpmjifgohcaaDoor

/-- The byte at a, a packed one of block k, is turned to x. -/
structure Sk.Flip (s : List UInt8) (block every k a : Nat) (x : UInt8) : Prop where
  hb1 : 1 ≤ block
  hb2 : block ≤ 1024
  hs : s.length ≤ 5000
  ev : 1 ≤ every
  hk : k < (Sk.fblk s block every s.length 0 0 3).length
  lo : (Sk.bk (Sk.fblk s block every s.length 0 0 3) k).pos + 9 ≤ a
  hi : a < (Sk.bk (Sk.fblk s block every s.length 0 0 3) k).pos + 9 + Sk.numAt (Sk.fileOf s block every) ((Sk.bk (Sk.fblk s block every s.length 0 0 3) k).pos + 3) 2
  ne : x ≠ Sk.gt (Sk.fileOf s block every) a

section
variable {s : List UInt8} {block every k a : Nat} {x : UInt8}

theorem Sk.file_opn (hb1 : 1 ≤ block) (hb2 : block ≤ 1024) (hs : s.length ≤ 5000) : Sk.openR (Sk.fileOf s block every) = (0, Sk.fblk s block every s.length 0 0 3, s.length) :=
  Sk.openR_file s block every hb1 hb2 (by omega) (by have := Sk.fileOf_length s block every hb1; omega)

theorem Sk.Flip.opn (h : Sk.Flip s block every k a x) : Sk.openR (Sk.fileOf s block every) = (0, Sk.fblk s block every s.length 0 0 3, s.length) := Sk.file_opn h.hb1 h.hb2 h.hs

theorem Sk.Flip.far (h : Sk.Flip s block every k a x) (j : Nat) (hj : j < (Sk.fblk s block every s.length 0 0 3).length) (hne : j ≠ k) : a < (Sk.bk (Sk.fblk s block every s.length 0 0 3) j).pos ∨ (Sk.bk (Sk.fblk s block every s.length 0 0 3) j).pos + 9 + Sk.numAt (Sk.fileOf s block every) ((Sk.bk (Sk.fblk s block every s.length 0 0 3) j).pos + 3) 2 ≤ a := by
  have hc := Sk.openR_chain h.opn
  have hlo := h.lo
  have hhi := h.hi
  have hk := h.hk
  rcases Nat.lt_or_ge j k with c | c
  · have := hc.le j (k - (j + 1)) (by omega)
    rw [show j + 1 + (k - (j + 1)) = k by omega] at this
    right; omega
  · have := hc.le k (j - (k + 1)) (by omega)
    rw [show k + 1 + (j - (k + 1)) = j by omega] at this
    left; omega

theorem Sk.Flip.hdr (h : Sk.Flip s block every k a x) (j : Nat) (hj : j < (Sk.fblk s block every s.length 0 0 3).length) (i : Nat) (hi : i < 9) : (Sk.bk (Sk.fblk s block every s.length 0 0 3) j).pos + i ≠ a := by
  have hlo := h.lo
  by_cases e : j = k
  · subst e; omega
  · rcases h.far j hj e with c | c <;> omega

theorem Sk.Flip.num (h : Sk.Flip s block every k a x) (j : Nat) (hj : j < (Sk.fblk s block every s.length 0 0 3).length) (c n : Nat) (hcn : c + n ≤ 9) : Sk.numAt ((Sk.fileOf s block every).set a x) ((Sk.bk (Sk.fblk s block every s.length 0 0 3) j).pos + c) n = Sk.numAt (Sk.fileOf s block every) ((Sk.bk (Sk.fblk s block every s.length 0 0 3) j).pos + c) n :=
  Sk.numAt_same n _ (fun i hi => Sk.gt_set_ne _ _ _ _ (by have := h.hdr j hj (c + i) (by omega); omega))

theorem Sk.Flip.len (h : Sk.Flip s block every k a x) : a < (Sk.fileOf s block every).length ∧ 12 ≤ a := by
  have hG := Sk.openR_good (Sk.fileOf s block every)
  rw [h.opn] at hG
  have := hG.ins k h.hk
  have hlo := h.lo
  have hhi := h.hi
  obtain ⟨h1, h2⟩ := this
  dsimp only at h1 h2
  omega

/-- The file is opened as if nothing were. -/
theorem Sk.Flip.openR (h : Sk.Flip s block every k a x) : Sk.openR ((Sk.fileOf s block every).set a x) = (0, Sk.fblk s block every s.length 0 0 3, s.length) := by
  have ho := h.opn
  obtain ⟨hal, ha⟩ := h.len
  have ht : ((Sk.fileOf s block every).set a x).take 3 = (Sk.fileOf s block every).take 3 := by rw [List.take_set, List.set_eq_of_length_le (by rw [List.length_take]; omega)]
  unfold Sk.openR at ho ⊢
  rw [List.length_set, ht]
  split at ho
  · simp at ho
  · next c =>
    split at ho
    · simp at ho
    · next c2 =>
      rw [if_neg c, if_neg c2]
      refine Sk.openN_same _ _ (List.length_set ..) _ _ _ _ _ _ ho (fun b hb i hi => ?_)
      obtain ⟨j, hj, rfl⟩ := Sk.bk_of_mem _ b hb
      exact Sk.gt_set_ne _ _ _ _ (h.hdr j hj i hi)

theorem Sk.Flip.at_ne (h : Sk.Flip s block every k a x) (j : Nat) (hj : j < (Sk.fblk s block every s.length 0 0 3).length) (hne : j ≠ k) (o : List UInt8) : Sk.atB ((Sk.fileOf s block every).set a x) (Sk.bk (Sk.fblk s block every s.length 0 0 3) j) j o = Sk.atB (Sk.fileOf s block every) (Sk.bk (Sk.fblk s block every s.length 0 0 3) j) j o := by
  have hp : Sk.packedOf ((Sk.fileOf s block every).set a x) (Sk.bk (Sk.fblk s block every s.length 0 0 3) j) = Sk.packedOf (Sk.fileOf s block every) (Sk.bk (Sk.fblk s block every s.length 0 0 3) j) := by
    unfold Sk.packedOf
    rw [h.num j hj 3 2 (by decide), Sk.sub_set_out]
    rcases h.far j hj hne with c | c
    · left; omega
    · right; omega
  unfold Sk.atB
  rw [hp, h.num j hj 5 4 (by decide)]

theorem Sk.Flip.at_k (h : Sk.Flip s block every k a x) (o : List UInt8) : Sk.atB ((Sk.fileOf s block every).set a x) (Sk.bk (Sk.fblk s block every s.length 0 0 3) k) k o = .bad 6 k := by
  have hkb := (Sk.fblk_k s block every h.hb1 h.hb2 (by have := h.hs; omega) k h.hk).1
  have hat := Sk.fblk_at s block every h.hb1 h.hb2 (by have := h.hs; omega) (Sk.fileOf s block every) s.length 0 0 [83, 75, 49] (by omega) rfl k (by rw [Nat.zero_add]; exact hkb)
  rw [show ([83, 75, 49] : List UInt8).length = 3 from rfl] at hat
  obtain ⟨_, _, _, _, h4, h5⟩ := hat
  rw [← h4] at h5
  have hlo := h.lo
  have hhi := h.hi
  have hal := h.len.1
  have hG := Sk.openR_good (Sk.fileOf s block every)
  rw [h.opn] at hG
  have hin := (hG.ins k h.hk).2
  dsimp only at hin
  have hp : Sk.packedOf ((Sk.fileOf s block every).set a x) (Sk.bk (Sk.fblk s block every s.length 0 0 3) k) = (Sk.packedOf (Sk.fileOf s block every) (Sk.bk (Sk.fblk s block every s.length 0 0 3) k)).set (a - ((Sk.bk (Sk.fblk s block every s.length 0 0 3) k).pos + 9)) x := by
    unfold Sk.packedOf
    rw [h.num k h.hk 3 2 (by decide), Sk.sub_set_in _ _ _ _ _ hlo]
  have hl : (Sk.packedOf (Sk.fileOf s block every) (Sk.bk (Sk.fblk s block every s.length 0 0 3) k)).length = Sk.numAt (Sk.fileOf s block every) ((Sk.bk (Sk.fblk s block every s.length 0 0 3) k).pos + 3) 2 := by
    unfold Sk.packedOf
    rw [Sk.sub_length _ _ _ hin]; omega
  have hgt : Sk.gt (Sk.packedOf (Sk.fileOf s block every) (Sk.bk (Sk.fblk s block every s.length 0 0 3) k)) (a - ((Sk.bk (Sk.fblk s block every s.length 0 0 3) k).pos + 9)) = Sk.gt (Sk.fileOf s block every) a := by
    unfold Sk.packedOf Sk.gt Sk.sub
    rw [List.getD_eq_getElem?_getD, List.getD_eq_getElem?_getD, List.getElem?_take, if_pos (by omega), List.getElem?_drop, show (Sk.bk (Sk.fblk s block every s.length 0 0 3) k).pos + 9 + (a - ((Sk.bk (Sk.fblk s block every s.length 0 0 3) k).pos + 9)) = a by omega]
  unfold Sk.atB
  rw [hp, h.num k h.hk 5 4 (by decide), h5, if_neg]
  exact Sk.sum_set _ _ _ (by rw [hl]; omega) (by rw [hgt]; exact h.ne)

/-- The next fresh one. -/
def Sk.nextF (every k : Nat) : Nat := (k / every + 1) * every
theorem Sk.nextF_gt (every k : Nat) (h : 1 ≤ every) : k < Sk.nextF every k := by
  unfold Sk.nextF
  have := Nat.div_add_mod k every
  have := Nat.mod_lt k h
  rw [Nat.add_mul, Nat.one_mul, Nat.mul_comm]
  omega
theorem Sk.nextF_mod (every k : Nat) : Sk.nextF every k % every = 0 := Nat.mul_mod_left _ _
theorem Sk.nextF_not (every k i : Nat) (hki : k < i) (hi : i < Sk.nextF every k) : i % every ≠ 0 := by
  intro h0
  have e := Nat.div_add_mod i every
  have e2 := Nat.div_add_mod k every
  rw [h0, Nat.add_zero] at e
  unfold Sk.nextF at hi
  have h1 : every * (k / every) < every * (i / every) := by omega
  have h2 : k / every < i / every := Nat.lt_of_mul_lt_mul_left h1
  have h3 : (k / every + 1) * every ≤ (i / every) * every := Nat.mul_le_mul_right _ h2
  rw [Nat.mul_comm (i / every)] at h3
  omega

theorem Sk.Flip.fresh (h : Sk.Flip s block every k a x) (j : Nat) (hj : j < (Sk.fblk s block every s.length 0 0 3).length) : (Sk.bk (Sk.fblk s block every s.length 0 0 3) j).fresh = (j % every == 0) :=
  (Sk.fblk_k s block every h.hb1 h.hb2 (by have := h.hs; omega) j hj).2.2.2

/-- Blocks ahead of it, and from the next fresh one on, are as they were. -/
theorem Sk.Flip.upto_good (h : Sk.Flip s block every k a x) (i : Nat) (hi : i < (Sk.fblk s block every s.length 0 0 3).length) (hc : i < k ∨ Sk.nextF every k ≤ i) : Sk.upto ((Sk.fileOf s block every).set a x) (Sk.fblk s block every s.length 0 0 3) i = Sk.upto (Sk.fileOf s block every) (Sk.fblk s block every s.length 0 0 3) i := by
  refine Sk.upto_same _ _ _ i (fun j h1 h2 o => h.at_ne j (by omega) ?_ o)
  rcases hc with c | c
  · omega
  · have hn := Sk.nextF_gt every k h.ev
    have hf := h.fresh (Sk.nextF every k) (by omega)
    rw [Sk.nextF_mod] at hf
    have := Sk.lastF_ge (Sk.fblk s block every s.length 0 0 3) (Sk.nextF every k) hf (i - Sk.nextF every k)
    rw [show Sk.nextF every k + (i - Sk.nextF every k) = i by omega] at this
    omega

/-- From it up to the next fresh one, none can be read. -/
theorem Sk.Flip.upto_bad (h : Sk.Flip s block every k a x) : ∀ m, k + m < (Sk.fblk s block every s.length 0 0 3).length → k + m < Sk.nextF every k → Sk.upto ((Sk.fileOf s block every).set a x) (Sk.fblk s block every s.length 0 0 3) (k + m) = .bad 6 k
  | 0, _, _ => by
    rw [Nat.add_zero]
    have hk := h.hk
    cases hf : (Sk.bk (Sk.fblk s block every s.length 0 0 3) k).fresh with
    | true => rw [Sk.upto_fresh _ _ _ hf]; exact h.at_k []
    | false =>
      cases k with
      | zero => rw [Sk.upto]; exact h.at_k []
      | succ k =>
        have hg := h.upto_good k (by omega) (.inl (by omega))
        rw [Sk.upto_file s block every h.hb1 h.hb2 (by have := h.hs; omega) k (Sk.fblk_k s block every h.hb1 h.hb2 (by have := h.hs; omega) k (by omega)).1] at hg
        rw [Sk.upto_step _ _ _ hf _ hg]
        exact h.at_k _
  | m + 1, h1, h2 => by
    have ih := h.upto_bad m (by omega) (by omega)
    refine Sk.upto_stay _ _ (k + m) ?_ _ _ ih
    have := h.fresh (k + m + 1) (by omega)
    rw [this]
    have := Sk.nextF_not every k (k + m + 1) (by omega) (by omega)
    simpa using this

theorem Sk.Flip.upto_bad' (h : Sk.Flip s block every k a x) (i : Nat) (hi : i < (Sk.fblk s block every s.length 0 0 3).length) (h1 : k ≤ i) (h2 : i < Sk.nextF every k) : Sk.upto ((Sk.fileOf s block every).set a x) (Sk.fblk s block every s.length 0 0 3) i = .bad 6 k := by
  have := h.upto_bad (i - k) (by omega) (by omega)
  rwa [show k + (i - k) = i by omega] at this

theorem Sk.Flip.lastF_le (h : Sk.Flip s block every k a x) : ∀ m, k + m < (Sk.fblk s block every s.length 0 0 3).length → k + m < Sk.nextF every k → Sk.lastF (Sk.fblk s block every s.length 0 0 3) (k + m) ≤ k
  | 0, _, _ => Sk.lastF_le _ _
  | m + 1, h1, h2 => by
    have ih := h.lastF_le m (by omega) (by omega)
    have := h.fresh (k + m + 1) (by omega)
    have h3 := Sk.nextF_not every k (k + m + 1) (by omega) (by omega)
    rw [← Nat.add_assoc, Sk.lastF_not_fresh _ _ (by rw [this]; simpa using h3)]
    exact ih

/-- The data from a block on, across the bad one. -/
theorem Sk.Flip.data_bad (h : Sk.Flip s block every k a x) (first m : Nat) (h1 : first ≤ k) (h2 : k < first + m) : Sk.dataN ((Sk.fileOf s block every).set a x) (Sk.fblk s block every s.length 0 0 3) first m = .bad 6 k := by
  refine Sk.dataN_hits _ _ first k 6 k h1 (h.upto_bad' k h.hk (Nat.le_refl _) (Sk.nextF_gt every k h.ev)) (fun i hi1 hi2 => ?_) m h2
  have hk := h.hk
  exact ⟨_, (h.upto_good i (by omega) (.inl hi2)).trans (Sk.upto_file s block every h.hb1 h.hb2 (by have := h.hs; omega) i (Sk.fblk_k s block every h.hb1 h.hb2 (by have := h.hs; omega) i (by omega)).1)⟩

theorem Sk.Flip.data_good (h : Sk.Flip s block every k a x) (i : Nat) (hi : i < (Sk.fblk s block every s.length 0 0 3).length) (hc : i < k ∨ Sk.nextF every k ≤ i) : Sk.dataN ((Sk.fileOf s block every).set a x) (Sk.fblk s block every s.length 0 0 3) (Sk.lastF (Sk.fblk s block every s.length 0 0 3) i) (i + 1 - Sk.lastF (Sk.fblk s block every s.length 0 0 3) i) = .good (Sk.sub s (Sk.lastF (Sk.fblk s block every s.length 0 0 3) i * block) (Sk.endOf s block i)) := by
  have hlf := Sk.lastF_le (Sk.fblk s block every s.length 0 0 3) i
  rw [Sk.dataN_same (Sk.fileOf s block every) _ _ _ _ (fun j h1 h2 => h.upto_good j (by omega) ?_)]
  · rw [Sk.dataN_file s block every h.hb1 h.hb2 (by have := h.hs; omega) _ _ (fun j hj => (Sk.fblk_k s block every h.hb1 h.hb2 (by have := h.hs; omega) _ (by omega)).1), show Sk.lastF (Sk.fblk s block every s.length 0 0 3) i + (i + 1 - Sk.lastF (Sk.fblk s block every s.length 0 0 3) i) = i + 1 by omega, Nat.add_mul, Nat.one_mul]
    rfl
  · rcases hc with c | c
    · left; omega
    · right
      have hn := Sk.nextF_gt every k h.ev
      have hf := h.fresh (Sk.nextF every k) (by omega)
      rw [Sk.nextF_mod] at hf
      have := Sk.lastF_ge (Sk.fblk s block every s.length 0 0 3) (Sk.nextF every k) hf (i - Sk.nextF every k)
      rw [show Sk.nextF every k + (i - Sk.nextF every k) = i by omega] at this
      omega

theorem Sk.Flip.isBad (h : Sk.Flip s block every k a x) (i : Nat) (hi : i < (Sk.fblk s block every s.length 0 0 3).length) : Sk.isBad ((Sk.fileOf s block every).set a x) (Sk.fblk s block every s.length 0 0 3) i = decide (k ≤ i ∧ i < Sk.nextF every k) := by
  unfold Sk.isBad
  by_cases c : k ≤ i ∧ i < Sk.nextF every k
  · rw [h.upto_bad' i hi c.1 c.2]
    simp [c]
  · rw [h.upto_good i hi (by omega), Sk.upto_file s block every h.hb1 h.hb2 (by have := h.hs; omega) i (Sk.fblk_k s block every h.hb1 h.hb2 (by have := h.hs; omega) i hi).1]
    simp only [Bool.false_eq, decide_eq_false_iff_not]
    exact c

/-- What Check tells. -/
theorem Sk.Flip.badL (h : Sk.Flip s block every k a x) : ∀ n, n ≤ (Sk.fblk s block every s.length 0 0 3).length → Sk.badL ((Sk.fileOf s block every).set a x) (Sk.fblk s block every s.length 0 0 3) n = (List.range (min n (Sk.nextF every k) - k)).map (fun m => k + m)
  | 0, _ => by simp [Sk.badL]
  | n + 1, hn => by
    rw [Sk.badL, h.badL n (by omega), h.isBad n (by omega)]
    by_cases c : k ≤ n ∧ n < Sk.nextF every k
    · rw [if_pos (by simpa using c), show min (n + 1) (Sk.nextF every k) - k = (min n (Sk.nextF every k) - k) + 1 by omega, List.range_succ, List.map_append, show min n (Sk.nextF every k) - k = n - k by omega]
      simp
      omega
    · rw [if_neg (by simpa using c), List.append_nil, show min (n + 1) (Sk.nextF every k) - k = min n (Sk.nextF every k) - k by have := Sk.nextF_gt every k h.ev; omega]

/-- Each block's packed bytes are some. -/
theorem Sk.packed_pos (hb1 : 1 ≤ block) (hb2 : block ≤ 1024) (hs : s.length ≤ 5000) (i : Nat) (hi : i < (Sk.fblk s block every s.length 0 0 3).length) : 1 ≤ Sk.numAt (Sk.fileOf s block every) ((Sk.bk (Sk.fblk s block every s.length 0 0 3) i).pos + 3) 2 := by
  have hz := Sk.fblk_k s block every hb1 hb2 (by omega) i hi
  have hu := Sk.upto_file s block every hb1 hb2 (by omega) i hz.1
  have hG := Sk.openR_good (Sk.fileOf s block every)
  rw [Sk.file_opn hb1 hb2 hs] at hG
  have hsz := (hG.siz i hi).1
  dsimp only at hsz
  have key : ∀ o r, Sk.atB (Sk.fileOf s block every) (Sk.bk (Sk.fblk s block every s.length 0 0 3) i) i o = .good r → 1 ≤ Sk.numAt (Sk.fileOf s block every) ((Sk.bk (Sk.fblk s block every s.length 0 0 3) i).pos + 3) 2 := fun o r hr => by
    rcases Nat.eq_zero_or_pos (Sk.numAt (Sk.fileOf s block every) ((Sk.bk (Sk.fblk s block every s.length 0 0 3) i).pos + 3) 2) with e | e
    · have hp : Sk.packedOf (Sk.fileOf s block every) (Sk.bk (Sk.fblk s block every s.length 0 0 3) i) = [] := by
        unfold Sk.packedOf Sk.sub
        rw [e]
        simp
      unfold Sk.atB at hr
      rw [hp] at hr
      have hn : Sk.unp [] (Sk.bk (Sk.fblk s block every s.length 0 0 3) i).size o = none := by
        unfold Sk.unp
        rw [Sk.unpN, if_neg (by simp), if_neg (by omega)]
      rw [hn] at hr
      split at hr <;> cases hr
    · exact e
  cases i with
  | zero => rw [Sk.upto] at hu; exact key _ _ hu
  | succ i =>
    rw [Sk.upto] at hu
    split at hu
    · exact key _ _ hu
    · split at hu
      · cases hu
      · exact key _ _ hu
end
end Go.Proofs.YtafkpmjifgohcaaDoor

namespace Go.Proofs.YtafkpmjifgohcaaDoor
open Go.RowKit

set_option maxRecDepth 100000 in
set_option maxHeartbeats 1000000 in
theorem repeated_any (s : ByteArray) (n : Nat) (w : World) (hs : s.size ≤ 1000) (hn : n ≤ 1000) :
    Calls Tryd.prog 20 #[.string s, .int .i64 n] w fun e w' => ∃ t : ByteArray, t.size ≤ 4000 ∧ e = .returned (.string t) ∧ w' = w := by
  go_enter Tryd.func20, Tryd.ntmps20
  go_wp2
  go_loop [5, 6] (fun x i => ∃ k : Nat, ∃ t : ByteArray, k ≤ n ∧ t.size ≤ 4000 ∧ i = .int .i64 k ∧ x = .string t) (fun _ i => n - (intOf i).toNat)
  case atStart => exact ⟨0, ⟨#[]⟩, Nat.zero_le _, by decide, rfl, rfl⟩
  case round =>
    obtain ⟨k, t, hk, ht, rfl, rfl⟩ := hrel
    by_cases h1 : k < n
    · by_cases h2 : t.size < 3000
      · have hz : (t ++ s).size = t.size + s.size := ByteArray.size_append
        go_wp2
        go_round
        case rel => exact ⟨k + 1, t ++ s, by omega, by omega, by go_num, rfl⟩
        case measure => simp [intOf]; omega
      · go_wp2
        go_ret
        exact ⟨t, ht, rfl, rfl⟩
    · go_wp2
      go_ret
      exact ⟨t, ht, rfl, rfl⟩

set_option maxRecDepth 100000 in
set_option maxHeartbeats 8000000 in
theorem back_law (s : ByteArray) (times size every from' count : Int) (A : Nat → Addr) (w : World) (h1 : Fits times) (h2 : Fits size) (h3 : Fits every) (h4 : Fits from') (h5 : Fits count) (hS : SentB w A w.heap.size) (hT : ErrT w) :
    Calls Tryd.prog 5 #[.string s, .int .i64 times, .int .i64 size, .int .i64 every, .int .i64 from', .int .i64 count] w fun e w' => e = .returned (.bool true) ∧ Below w.heap.size w w' := by
  have HS : Hid (SentB w A w.heap.size) := hS
  have HT : Hid (ErrT w) := hT
  have H1 : Hid (Fits times) := h1
  have H2 : Hid (Fits size) := h2
  have H3 : Hid (Fits every) := h3
  have H4 : Hid (Fits from') := h4
  have H5 : Hid (Fits count) := h5
  have hes4 := fun W : World => eq_same (W := W) (A 4)
  clear hS hT h1 h2 h3 h4 h5
  go_enter Tryd.func5, Tryd.ntmps5
  go_wp2_with fail
  refine (awake_any A w HS.out.errs).mono ?_
  rintro e w1 ⟨rfl, hb1⟩
  have HB1 : Hid (Below w.heap.size w w1) := hb1
  clear hb1
  go_wp2_with fail
  refine (short_any s 300 w1 (by decide)).mono ?_
  rintro e w2 ⟨t0, ht0, rfl, hw2⟩
  rw [hw2]
  clear hw2 w2
  go_wp2_with fail
  refine (pickK_any times 20 w1 H1.out (by decide) (by decide)).mono ?_
  rintro e w2 ⟨k, hk, rfl, hw2⟩
  rw [hw2]
  clear hw2 w2
  go_wp2_with fail
  rw [show (1 : Int) + (k : Int) = ((1 + k : Nat) : Int) by omega]
  refine (repeated_any t0 (1 + k) w1 (by omega) (by omega)).mono ?_
  rintro e w2 ⟨t, ht, rfl, hw2⟩
  rw [hw2]
  clear hw2 w2
  go_wp2_with fail
  refine (pickK_any size 80 w1 H2.out (by decide) (by decide)).mono ?_
  rintro e w2 ⟨b, hb, rfl, hw2⟩
  rw [hw2]
  clear hw2 w2
  go_wp2_with fail
  refine (pickK_any every 6 w1 H3.out (by decide) (by decide)).mono ?_
  rintro e w2 ⟨ev, hev, rfl, hw2⟩
  rw [hw2]
  clear hw2 w2
  go_wp2_with fail
  rw [show (1 : Int) + (b : Int) = ((1 + b : Nat) : Int) by omega, show (1 : Int) + (ev : Int) = ((1 + ev : Nat) : Int) by omega]
  refine (fileK_any t (1 + b) (1 + ev) A w1 (HS.out.below HB1.out).errs (by omega) (by omega) (by omega) (by omega) (by omega)).mono ?_
  rintro e w3 ⟨hb3, g, v, rfl, hpf⟩
  have hbl1 : 1 ≤ 1 + b := by omega
  have hbl2 : 1 + b ≤ 1024 := by omega
  generalize 1 + b = bl at hbl1 hbl2 hpf ⊢
  generalize 1 + ev = evy at hpf ⊢
  have HB3 : Hid (Below w.heap.size w w3) := HB1.out.trans (hb3.mono HB1.out.size)
  have HPF : Hid (PFile w3 w1.heap.size g ⟨(Sk.fileOf t.data.toList bl evy).toArray⟩ v (Sk.fblk t.data.toList bl evy t.size 0 0 3) t.size) := hpf
  clear hb3 hpf hb hev hk ht0
  go_wp2_with fail
  rw [show (t.size : Int) + 1 = ((t.size + 1 : Nat) : Int) by omega]
  refine (pickK_any from' (t.size + 1) w3 H4.out (by omega) (by omega)).mono ?_
  rintro e w4 ⟨f, hf, rfl, hw4⟩
  rw [hw4]
  clear hw4 w4
  go_wp2_with fail
  rw [show (t.size : Int) - (f : Int) + 1 = ((t.size - f + 1 : Nat) : Int) by omega]
  refine (pickK_any count (t.size - f + 1) w3 H5.out (by omega) (by omega)).mono ?_
  rintro e w4 ⟨c, hc, rfl, hw4⟩
  rw [hw4]
  clear hw4 w4
  have hcf : f + c ≤ t.size := by omega
  have HTL : Hid (t.data.toList.length = t.size) := Array.length_toList
  have HPF2 : ∀ W, Below w3.heap.size w3 W → PFile W w1.heap.size g ⟨(Sk.fileOf t.data.toList bl evy).toArray⟩ v (Sk.fblk t.data.toList bl evy t.data.toList.length 0 0 3) t.data.toList.length := fun W hW => by
    rw [HTL.out]; exact HPF.out.below hW
  have HP2 : Hid (∀ W, Below w3.heap.size w3 W → PFile W w1.heap.size g ⟨(Sk.fileOf t.data.toList bl evy).toArray⟩ v (Sk.fblk t.data.toList bl evy t.data.toList.length 0 0 3) t.data.toList.length) := HPF2
  have HSS : Hid (∀ W, Below w.heap.size w W → SentB W A W.heap.size) := fun W hW => ⟨(HS.out.below hW).s, Nat.le_trans HS.out.l hW.size, fun i hi => Nat.lt_of_lt_of_le (HS.out.a i hi) hW.size⟩
  clear HPF2 hc hf
  go_wp2_with fail
  refine (readBack_any w1.heap.size g t.data.toList bl evy v f c A w3 hbl1 hbl2 (by rw [HTL.out]; omega) (HP2.out w3 (Below.refl _ _)) (by rw [HTL.out]; exact hcf) (HSS.out w3 HB3.out)).mono ?_
  rintro e w4 ⟨rfl, hb4⟩
  have HB4 : Hid (Below w3.heap.size w3 w4) := hb4
  clear hb4
  go_wp2_with fail
  rw [show (0 : Int) = ((0 : Nat) : Int) from rfl]
  refine (readBack_any w1.heap.size g t.data.toList bl evy v 0 t.size A w4 hbl1 hbl2 (by rw [HTL.out]; omega) (HP2.out w4 HB4.out) (by rw [HTL.out]; omega) (HSS.out w4 (HB3.out.trans (HB4.out.mono HB3.out.size)))).mono ?_
  rintro e w5 ⟨rfl, hb5⟩
  have HB5 : Hid (Below w3.heap.size w3 w5) := HB4.out.trans (hb5.mono HB4.out.size)
  clear hb5
  have hall : (⟨(Sk.sub t.data.toList 0 (0 + t.size)).toArray⟩ : ByteArray) = t := by
    apply ByteArray.ext
    apply Array.ext'
    rw [Nat.zero_add, ← HTL.out, Sk.sub_end]
    simp
  rw [hall]
  clear hall
  go_wp2_with fail
  refine (readAt_range w1.heap.size g _ v _ t.data.toList.length f _ (A 4) w5 (HP2.out w5 HB5.out) (by rw [HTL.out]; omega) ⟨by omega, by omega⟩ (.inr (.inr (by rw [HTL.out]; omega))) ((HSS.out w5 (HB3.out.trans (HB5.out.mono HB3.out.size))).s.cell 4 (by decide))).mono ?_
  rintro e w6 ⟨rfl, hb6⟩
  have HB6 : Hid (Below w3.heap.size w3 w6) := HB5.out.trans (hb6.mono HB5.out.size)
  clear hb6
  have HGF : Hid (Sk.Good (Sk.fileOf t.data.toList bl evy) (Sk.fblk t.data.toList bl evy t.data.toList.length 0 0 3) t.data.toList.length ∧ (Sk.fblk t.data.toList bl evy t.data.toList.length 0 0 3).length ≤ 20000 ∧ (Sk.fileOf t.data.toList bl evy).length ≤ 65536) := by
    have hfl := Sk.fileOf_length t.data.toList bl evy hbl1
    have hop := Sk.openR_file t.data.toList bl evy hbl1 hbl2 (by rw [HTL.out]; omega) (by rw [HTL.out] at hfl; omega)
    have hG := Sk.openR_good (Sk.fileOf t.data.toList bl evy)
    have hlen := (Sk.openR_data (Sk.fileOf t.data.toList bl evy)).2
    rw [hop] at hG hlen
    refine ⟨hG, ?_, by rw [HTL.out] at hfl; omega⟩
    have := HTL.out
    have h2 : (Sk.fblk t.data.toList bl evy t.data.toList.length 0 0 3).length ≤ t.data.toList.length := hlen
    omega
  have HBL : Hid (Sk.badL (Sk.fileOf t.data.toList bl evy) (Sk.fblk t.data.toList bl evy t.data.toList.length 0 0 3) (Sk.fblk t.data.toList bl evy t.data.toList.length 0 0 3).length = []) := Sk.badL_file _ _ _ hbl1 hbl2 (by rw [HTL.out]; omega)
  go_wp2_with fail
  refine (check_any w1.heap.size g ⟨(Sk.fileOf t.data.toList bl evy).toArray⟩ v _ t.data.toList.length A w6 (HP2.out w6 HB6.out) (by rw [dl_str]; exact HGF.out.1) (by show (Sk.fileOf t.data.toList bl evy).toArray.size ≤ _; have := HGF.out.2.2; simp; omega) HGF.out.2.1 (HSS.out w6 (HB3.out.trans (HB6.out.mono HB3.out.size))) (HT.out.below (HB3.out.trans (HB6.out.mono HB3.out.size)))).mono ?_
  rw [dl_str, HBL.out]
  rintro e w7 ⟨l, rfl, hl, hg7⟩
  have HB7 : Hid (Below w.heap.size w w7) := (HB3.out.trans (HB6.out.mono HB3.out.size)).trans ((gr_nil_below hg7).mono (Nat.le_trans HB3.out.size HB6.out.size))
  obtain ⟨lo, lcap, el⟩ := hl.form
  rw [el]
  clear hl hg7 el
  have hex : t.extract f (f + c) = ⟨(Sk.sub t.data.toList f (f + c)).toArray⟩ := extract_sub t f (f + c)
  have g4 := (HS.out.below HB7.out).s.cell 4 (by decide)
  simp only [gv] at g4
  have hfi : (f : Int) + (c : Int) ≤ (t.size : Int) := by omega
  go_wp2_with fail
  go_ret
  exact ⟨rfl, HB7.out⟩
end Go.Proofs.YtafkpmjifgohcaaDoor

namespace Go.Proofs.YtafkpmjifgohcaaDoor
open Go.RowKit

def Sk.abcd : List UInt8 := [97, 98, 99, 100]
def Sk.abP : List UInt8 := [3, 97, 98, 99, 100]
theorem Sk.ab_unp : Sk.unp Sk.abP 4 [] = some Sk.abcd := by kernel_rfl

set_option maxRecDepth 100000 in
set_option maxHeartbeats 4000000 in
theorem badK_any (n : Nat) (p : ByteArray) (fr : Bool) (A : Nat → Addr) (w : World) (hS : SentB w A w.heap.size) (hT : ErrT w) (h1 : 1 ≤ n) (h2 : n ≤ 1024) (hp : p.size ≤ 30000) (hu : Sk.unp p.data.toList n (if fr then [] else Sk.abcd) = none) :
    Calls Tryd.prog 27 #[.int .i64 n, .string p, .bool fr] w fun e w' => e = .returned (.bool true) ∧ Below w.heap.size w w' := by
  have hpl : p.data.toList.length = p.size := Array.length_toList
  have hop := Sk.openR_two (n1 := 4) (P1 := Sk.abP) (fr := fr) (n2 := n) (P2 := p.data.toList) (by decide) (by decide) h1 h2 (by decide) (by omega)
  have hG := Sk.openR_good (Sk.twoF 4 Sk.abP fr n p.data.toList)
  rw [hop] at hG
  have hu0 := Sk.upto_two0 (n1 := 4) (n2 := n) (P1 := Sk.abP) (P2 := p.data.toList) (fr := fr) (by decide) (by decide)
  have hu1 := Sk.upto_two1 (n1 := 4) (n2 := n) (P1 := Sk.abP) (P2 := p.data.toList) (fr := fr) (by decide) h2 (by decide) (by omega) Sk.ab_unp
  rw [Sk.ab_unp] at hu0
  rw [hu] at hu1
  have hd1 : Sk.dataN (Sk.twoF 4 Sk.abP fr n p.data.toList) (Sk.twoB 4 Sk.abP fr n) 0 1 = .good Sk.abcd := by
    rw [Sk.dataN_step (show Sk.dataN _ _ 0 0 = .good [] from rfl), Nat.zero_add, hu0]
    rfl
  have hd2 : Sk.dataN (Sk.twoF 4 Sk.abP fr n p.data.toList) (Sk.twoB 4 Sk.abP fr n) 0 2 = .bad 7 1 := by
    rw [Sk.dataN_step hd1, Nat.zero_add, hu1]
    rfl
  have hbl : Sk.badL (Sk.twoF 4 Sk.abP fr n p.data.toList) (Sk.twoB 4 Sk.abP fr n) 2 = [1] := by
    rw [Sk.badL_bad (by unfold Sk.isBad; rw [hu1]; rfl), Sk.badL_good (by unfold Sk.isBad; rw [hu0]; rfl)]
    rfl
  have hlen : (Sk.twoF 4 Sk.abP fr n p.data.toList).length = 26 + p.size := by
    rw [Sk.twoF_length, hpl]
    show 21 + 5 + p.size = _
    omega
  have hcat : ((⟨#[83, 75, 49]⟩ : ByteArray) ++ (⟨(Sk.hdr true 4 5 (Sk.sumOf Sk.abP) ++ Sk.abP).toArray⟩ : ByteArray)) ++ (⟨(Sk.hdr fr n p.size (Sk.sumOf p.data.toList) ++ p.data.toList).toArray⟩ : ByteArray) = ⟨(Sk.twoF 4 Sk.abP fr n p.data.toList).toArray⟩ := by
    rw [show (⟨#[83, 75, 49]⟩ : ByteArray) = ⟨([83, 75, 49] : List UInt8).toArray⟩ from rfl, cat_str, cat_str, ← hpl, List.append_assoc]
    rfl
  have HCAT : Hid (((⟨#[83, 75, 49]⟩ : ByteArray) ++ (⟨(Sk.hdr true 4 5 (Sk.sumOf Sk.abP) ++ Sk.abP).toArray⟩ : ByteArray)) ++ (⟨(Sk.hdr fr n p.size (Sk.sumOf p.data.toList) ++ p.data.toList).toArray⟩ : ByteArray) = ⟨(Sk.twoF 4 Sk.abP fr n p.data.toList).toArray⟩) := hcat
  have hz1 : (⟨(Sk.hdr true 4 5 (Sk.sumOf Sk.abP) ++ Sk.abP).toArray⟩ : ByteArray).size = 14 := by
    show (Sk.hdr true 4 5 (Sk.sumOf Sk.abP) ++ Sk.abP).toArray.size = 14
    simp [Sk.hdr_length, Sk.abP]
  have hz2 : (⟨(Sk.hdr fr n p.size (Sk.sumOf p.data.toList) ++ p.data.toList).toArray⟩ : ByteArray).size = 9 + p.size := by
    show (Sk.hdr fr n p.size (Sk.sumOf p.data.toList) ++ p.data.toList).toArray.size = _
    simp [Sk.hdr_length, hpl]
  generalize hF : Sk.twoF 4 Sk.abP fr n p.data.toList = F at *
  have hbs : Sk.twoB 4 Sk.abP fr n = [⟨0, 4, 3, true⟩, ⟨4, n, 17, fr⟩] := rfl
  rw [hbs] at *
  have HOP : Hid (Sk.openR F = (0, [⟨0, 4, 3, true⟩, ⟨4, n, 17, fr⟩], 4 + n)) := hop
  have HG : Hid (Sk.Good (⟨F.toArray⟩ : ByteArray).data.toList [⟨0, 4, 3, true⟩, ⟨4, n, 17, fr⟩] (4 + n)) := by rw [dl_str]; exact hG
  have HD1 : Hid (Sk.dataN (⟨F.toArray⟩ : ByteArray).data.toList [⟨0, 4, 3, true⟩, ⟨4, n, 17, fr⟩] 0 1 = .good Sk.abcd) := by rw [dl_str]; exact hd1
  have HD2 : Hid (Sk.dataN (⟨F.toArray⟩ : ByteArray).data.toList [⟨0, 4, 3, true⟩, ⟨4, n, 17, fr⟩] 0 2 = .bad 7 1) := by rw [dl_str]; exact hd2
  have HBL : Hid (Sk.badL (⟨F.toArray⟩ : ByteArray).data.toList [⟨0, 4, 3, true⟩, ⟨4, n, 17, fr⟩] 2 = [1]) := by rw [dl_str]; exact hbl
  have HFZ : Hid ((⟨F.toArray⟩ : ByteArray).size = 26 + p.size) := by show F.toArray.size = _; simp [hlen]
  have HS : Hid (SentB w A w.heap.size) := hS
  have HT : Hid (ErrT w) := hT
  have hes6 := fun W : World => eq_same (W := W) (A 6)
  clear hop hG hu0 hu1 hd1 hd2 hbl hlen hF hbs hS hT hu hcat
  go_enter Tryd.func27, Tryd.ntmps27
  go_wp2_with fail
  refine (runK_any ⟨#[97, 98, 99, 100]⟩ w (by decide) (by decide)).mono ?_
  rw [show (⟨(UInt8.ofNat ((⟨#[97, 98, 99, 100]⟩ : ByteArray).size - 1) :: (⟨#[97, 98, 99, 100]⟩ : ByteArray).data.toList).toArray⟩ : ByteArray) = ⟨Sk.abP.toArray⟩ from rfl]
  rintro e w1 ⟨rfl, hb1⟩
  have HB1 : Hid (Below w.heap.size w w1) := hb1
  clear hb1
  go_wp2_with fail
  refine (blockK_any true 4 ⟨Sk.abP.toArray⟩ w1 (by decide) (by decide)).mono ?_
  rw [show (⟨Sk.abP.toArray⟩ : ByteArray).size = 5 from rfl, show (⟨Sk.abP.toArray⟩ : ByteArray).data.toList = Sk.abP from rfl]
  rintro e w2 ⟨rfl, hb2⟩
  have HB2 : Hid (Below w.heap.size w w2) := HB1.out.trans (hb2.mono HB1.out.size)
  clear hb2
  go_wp2_with fail
  refine (blockK_any fr n p w2 (by omega) (by omega)).mono ?_
  rintro e w3 ⟨rfl, hb3⟩
  have HB3 : Hid (Below w.heap.size w w3) := HB2.out.trans (hb3.mono HB2.out.size)
  clear hb3
  go_wp2_with fail
  rw [HCAT.out]
  clear hz1 hz2
  refine (open_any ⟨F.toArray⟩ A w3 (HS.out.below HB3.out).errs (by rw [HFZ.out]; omega)).mono ?_
  rw [dl_str, HOP.out]
  rintro e w4 ⟨hb4, _, r0, _⟩
  obtain ⟨g, v, rfl, hpf⟩ := r0 rfl
  have HB4 : Hid (Below w.heap.size w w4) := HB3.out.trans (hb4.mono HB3.out.size)
  have HPF : Hid (PFile w4 w3.heap.size g ⟨F.toArray⟩ v [⟨0, 4, 3, true⟩, ⟨4, n, 17, fr⟩] (4 + n)) := hpf
  have HSS : Hid (∀ W, Below w.heap.size w W → SentB W A W.heap.size) := fun W hW => ⟨(HS.out.below hW).s, Nat.le_trans HS.out.l hW.size, fun i hi => Nat.lt_of_lt_of_le (HS.out.a i hi) hW.size⟩
  clear hb4 r0 hpf
  go_wp2_with fail
  refine (readAt_good w3.heap.size g ⟨F.toArray⟩ v [⟨0, 4, 3, true⟩, ⟨4, n, 17, fr⟩] (4 + n) 0 4 0 0 Sk.abcd (A 5) w4 HPF.out HG.out (by rw [HFZ.out]; omega) (by simp) (by decide) (by omega) ⟨by simp, by show (0 : Nat) ≤ 0; decide, by show (0 : Nat) < 0 + 4; decide⟩ ⟨by simp, by show (0 : Nat) ≤ 0 + 4 - 1; decide, by show 0 + 4 - 1 < 0 + 4; decide⟩ ((HSS.out w4 HB4.out).s.cell 5 (by decide)) HD1.out).mono ?_
  rintro e w5 ⟨he, hb5⟩
  have he2 : e = .returned (.tuple #[.string ⟨#[97, 98, 99, 100]⟩, .nilIface]) := he
  subst he2
  have HB5 : Hid (Below w.heap.size w w5) := HB4.out.trans (hb5.mono HB4.out.size)
  have HP5 : Hid (PFile w5 w3.heap.size g ⟨F.toArray⟩ v [⟨0, 4, 3, true⟩, ⟨4, n, 17, fr⟩] (4 + n)) := HPF.out.below hb5
  clear hb5 he
  go_wp2_with fail
  refine (readAt_bad w3.heap.size g ⟨F.toArray⟩ v [⟨0, 4, 3, true⟩, ⟨4, n, 17, fr⟩] (4 + n) 3 2 0 1 7 1 A w5 HP5.out HG.out (by rw [HFZ.out]; omega) (by simp) (by decide) (by omega) ⟨by simp, by show (0 : Nat) ≤ 3; decide, by show 3 < 0 + 4; decide⟩ ⟨by simp, by show 4 ≤ 3 + 2 - 1; decide, by show 3 + 2 - 1 < 4 + n; omega⟩ (HSS.out w5 HB5.out) HD2.out).mono ?_
  rintro e w6 ⟨vb, rfl, hbad, hb6⟩
  have HB6 : Hid (Below w.heap.size w w6) := HB5.out.trans (hb6.mono HB5.out.size)
  have HBAD6 : Hid (BadErr w6 w5.heap.size vb 1 (A 6)) := hbad
  have HP6 : Hid (PFile w6 w3.heap.size g ⟨F.toArray⟩ v [⟨0, 4, 3, true⟩, ⟨4, n, 17, fr⟩] (4 + n)) := HP5.out.below hb6
  obtain ⟨q, p', ff, hvb, _⟩ := hbad
  subst hvb
  clear hb6
  go_wp2_with fail
  refine (check_any w3.heap.size g ⟨F.toArray⟩ v [⟨0, 4, 3, true⟩, ⟨4, n, 17, fr⟩] (4 + n) A w6 HP6.out HG.out (by rw [HFZ.out]; omega) (by simp) (HSS.out w6 HB6.out) (HT.out.below HB6.out)).mono ?_
  rw [show ([⟨0, 4, 3, true⟩, ⟨4, n, 17, fr⟩] : List Sk.Blk).length = 2 from rfl, HBL.out]
  rintro e w7 ⟨l, rfl, hl, hg7⟩
  have HB7 : Hid (Below w6.heap.size w6 w7) := gr_nil_below hg7
  have HBAD7 : Hid (BadErr w7 w5.heap.size (.iface 151 (.pointer (some ⟨q, 0, none⟩))) 1 (A 6)) := HBAD6.out.below HB7.out (Nat.le_refl _)
  have HL7 : Hid (Rw w7 1 l 1 [.int .i64 1]) := hl
  obtain ⟨lo, lcap, el⟩ := hl.form
  have el' : l = .slice lo 1 lcap := el
  subst el'
  clear hl hg7 el
  go_wp2_with fail
  refine (as_badErr _ 1 (A 6) _ w7 _ HBAD7.out (HT.out.below (HB6.out.trans (HB7.out.mono HB6.out.size))) ((Below.refl _ _).alloc (Nat.le_refl _) _) (heap_alloc_new _ _)).mono ?_
  rintro e w8 ⟨rfl, hb8, p2, hp2, c0, c1, c2⟩
  have HB8 : Hid (Below w.heap.size w w8) := (HB6.out.trans (HB7.out.mono HB6.out.size)).trans (hb8.mono (Nat.le_trans HB6.out.size HB7.out.size))
  have HL8 : Hid (Rw w8 1 (.slice lo 1 lcap) 1 [.int .i64 1]) := HL7.out.below hb8
  clear hb8
  obtain ⟨gl, rfl⟩ := HL8.out.some_of (by decide)
  have x0 := HL8.out.cell 0 (by decide)
  simp at x0
  have g6 := (HS.out.below HB8.out).s.cell 6 (by decide)
  simp only [gv] at g6
  have c1' : w8.cell? ⟨p2, 0, none⟩ = some (.int .i64 1) := c1
  clear c1
  go_wp2_with fail
  go_quiet (fail)
  go_wp2
  go_ret
  exact ⟨rfl, below_drewN HB8.out _⟩
end Go.Proofs.YtafkpmjifgohcaaDoor
