/- What Chunks yields, held against the document's Upto (pure). -/
import Derived.Test.YtafkpmjifgohcaaDoorChunkeduptoPart19
import Derived.Test.YtafkpmjifgohcaaDoorChunkeduptoPart20
namespace Go.Proofs.YtafkpmjifgohcaaDoor

theorem Sk.upto_why (s : List UInt8) (bs : List Sk.Blk) : ∀ k w j, Sk.upto s bs k = .bad w j → w = 6 ∨ w = 7
  | 0, w, j, h => (Sk.atB_bad h).2
  | k + 1, w, j, h => by
    rw [Sk.upto] at h
    split at h
    · exact (Sk.atB_bad h).2
    · split at h
      · next w' j' h' => cases h; exact Sk.upto_why s bs k _ _ h'
      · exact (Sk.atB_bad h).2

section
variable {s : List UInt8} {bs : List Sk.Blk} {d : Nat}
theorem Sk.goodN_good (first : Nat) : ∀ m, ∃ D, Sk.dataN s bs first (Sk.goodN s bs first m) = .good D
  | 0 => ⟨_, rfl⟩
  | m + 1 => by
    rw [Sk.goodN]
    split
    · next D h => exact ⟨D, h⟩
    · exact Sk.goodN_good first m
theorem Sk.goodN_le (first : Nat) : ∀ m, Sk.goodN s bs first m ≤ m
  | 0 => Nat.le_refl _
  | m + 1 => by
    rw [Sk.goodN]
    split
    · exact Nat.le_refl _
    · have := Sk.goodN_le first m; omega

theorem Sk.chunks_upto (hG : Sk.Good s bs d) (k p : Nat) (hk : k < bs.length) (i : Nat) (hi : i < (Sk.chunks s bs k p).length) :
    k + i < bs.length ∧ ∃ o, Sk.upto s bs (k + i) = .good o ∧ (Sk.chunks s bs k p)[i]? = some (k + i, o.drop (max p (Sk.bk bs (k + i)).frm - (Sk.bk bs (Sk.lastF bs (k + i))).frm)) ∧ (Sk.bk bs (Sk.lastF bs (k + i))).frm ≤ (Sk.bk bs (k + i)).frm ∧
      o.length + (Sk.bk bs (Sk.lastF bs (k + i))).frm = (Sk.bk bs (k + i)).frm + (Sk.bk bs (k + i)).size := by
  have hfr := hG.lastF_fresh k hk
  have hlf := Sk.lastF_le bs k
  have hcl := Sk.chunks_length (s := s) (bs := bs) k p
  rw [hcl] at hi
  have hle := Sk.goodN_le (s := s) (bs := bs) (Sk.lastF bs k) (bs.length - Sk.lastF bs k)
  obtain ⟨D0, hD0⟩ := Sk.goodN_good (s := s) (bs := bs) (Sk.lastF bs k) (bs.length - Sk.lastF bs k)
  have hcg := fun m D => Sk.chunks_get (s := s) (bs := bs) (start := k) (p := p) (m := m) (D := D)
  have hge := Sk.lastF_ge bs (Sk.lastF bs k) hfr (k + i - Sk.lastF bs k)
  rw [show Sk.lastF bs k + (k + i - Sk.lastF bs k) = k + i by omega] at hge
  generalize Sk.lastF bs k = fi at *
  generalize Sk.goodN s bs fi (bs.length - fi) = G at *
  have hlt : k + i < bs.length := by omega
  refine ⟨hlt, ?_⟩
  obtain ⟨D, hD⟩ := Sk.dataN_upto hD0 (k + i - fi + 1) (by omega)
  obtain ⟨_, h1, h2⟩ := hG.data hfr (k + i - fi + 1) D (by omega) hD
  have h1 := h1 (by omega)
  have h2 := h2 (k + i - fi) (by omega)
  rw [show fi + (k + i - fi + 1) - 1 = k + i by omega] at h1
  rw [show fi + (k + i - fi) = k + i by omega] at h2
  have hc := hcg (k + i - fi) D hD (by omega) (by omega)
  rw [show fi + (k + i - fi) - k = i by omega, show fi + (k + i - fi) = k + i by omega] at hc
  have hl2 := Sk.lastF_le bs (k + i)
  have f1 := hG.frm_le fi (Sk.lastF bs (k + i) - fi) (by omega)
  rw [show fi + (Sk.lastF bs (k + i) - fi) = Sk.lastF bs (k + i) by omega] at f1
  have f2 := hG.frm_le (Sk.lastF bs (k + i)) (k + i - Sk.lastF bs (k + i)) (by omega)
  rw [show Sk.lastF bs (k + i) + (k + i - Sk.lastF bs (k + i)) = k + i by omega] at f2
  have e1 : (Sk.bk bs (k + i)).frm + (Sk.bk bs (k + i)).size - (Sk.bk bs fi).frm = D.length := by omega
  rw [e1, Sk.sub_end] at h2
  refine ⟨_, h2, ?_, f2, ?_⟩
  · rw [hc, List.drop_drop]
    congr 3
    omega
  · rw [List.length_drop]
    omega

theorem Sk.chunks_end (hG : Sk.Good s bs d) (k p : Nat) (hk : k < bs.length) :
    k + (Sk.chunks s bs k p).length = bs.length ∨ (k + (Sk.chunks s bs k p).length < bs.length ∧ ∃ why j, Sk.upto s bs (k + (Sk.chunks s bs k p).length) = .bad why j ∧ (why = 6 ∨ why = 7)) := by
  have hfr := hG.lastF_fresh k hk
  have hlf := Sk.lastF_le bs k
  rw [Sk.chunks_length]
  obtain ⟨fi, hfi⟩ : ∃ fi, fi = Sk.lastF bs k := ⟨_, rfl⟩
  rw [← hfi] at hfr hlf ⊢
  cases hd : Sk.dataN s bs fi (bs.length - fi) with
  | good D =>
    left
    rw [Sk.goodN_of_good hd]
    omega
  | bad w j =>
    obtain ⟨h1, h2, h3, D, h4⟩ := Sk.dataN_bad hfr _ _ _ hd
    have hgn := Sk.goodN_bad h4 (by rw [show fi + (j - fi) = j by omega]; exact h3) (bs.length - fi - (j - fi))
    rw [show j - fi + (bs.length - fi - (j - fi)) = bs.length - fi by omega] at hgn
    rw [hgn]
    right
    rcases Nat.lt_or_ge j k with c | c
    · have hu := Sk.upto_on s bs k w j (k - j) j (by omega) (by rw [← hfi]; omega) h3
      rw [show k + (fi + (j - fi) - k) = k by omega]
      exact ⟨hk, w, j, hu, Sk.upto_why s bs k w j hu⟩
    · rw [show k + (fi + (j - fi) - k) = j by omega]
      exact ⟨by omega, w, j, h3, Sk.upto_why s bs j w j h3⟩
end
end Go.Proofs.YtafkpmjifgohcaaDoor
