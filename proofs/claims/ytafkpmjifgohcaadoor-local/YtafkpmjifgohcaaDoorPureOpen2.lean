/- Where the blocks of a file lie, and what Open answers, as plain facts. -/
import Derived.Test.YtafkpmjifgohcaaDoorPureOpen
namespace Go.Proofs.YtafkpmjifgohcaaDoor

/-- A block's header and packed bytes lie within the file. -/
def Sk.Inside (s : List UInt8) (b : Sk.Blk) : Prop := 3 ≤ b.pos ∧ b.pos + 9 + Sk.numAt s (b.pos + 3) 2 ≤ s.length

theorem Sk.openN_inside (s : List UInt8) : ∀ f p bs d, 3 ≤ p → (∀ b ∈ bs, Sk.Inside s b) → ∀ b ∈ (Sk.openN s f p bs d).2.1, Sk.Inside s b
  | 0, _, _, _, _, h => h
  | f + 1, p, bs, d, hp, h => by
    unfold Sk.openN
    split
    · split
      · intro b hb; cases hb
      · split
        · intro b hb; cases hb
        · split
          · intro b hb; cases hb
          · refine Sk.openN_inside s f _ _ _ (by omega) (fun b hb => ?_)
            rcases List.mem_append.1 hb with hb | hb
            · exact h b hb
            · have := List.mem_singleton.1 hb
              subst this
              exact ⟨hp, by show p + 9 + Sk.numAt s (p + 3) 2 ≤ _; omega⟩
    · exact h

theorem Sk.openN_data (s : List UInt8) : ∀ f p bs d, d ≤ 20000 → bs.length ≤ d → (Sk.openN s f p bs d).2.2 ≤ 20000 ∧ (Sk.openN s f p bs d).2.1.length ≤ (Sk.openN s f p bs d).2.2
  | 0, _, _, _, h, h2 => ⟨h, h2⟩
  | f + 1, p, bs, d, h, h2 => by
    unfold Sk.openN
    split
    · split
      · exact ⟨by decide, by decide⟩
      · split
        · exact ⟨by decide, by decide⟩
        · next hbad =>
          split
          · exact ⟨by decide, by decide⟩
          · have hb : Sk.badHdr s p bs d = false := by simpa using hbad
            unfold Sk.badHdr at hb
            simp only [Bool.or_eq_false_iff, decide_eq_false_iff_not] at hb
            refine Sk.openN_data s f _ _ _ (by omega) ?_
            rw [List.length_append]
            simp
            omega
    · exact ⟨h, h2⟩

theorem Sk.openR_inside (s : List UInt8) : ∀ b ∈ (Sk.openR s).2.1, Sk.Inside s b := by
  unfold Sk.openR
  split
  · intro b hb; cases hb
  · split
    · intro b hb; cases hb
    · exact Sk.openN_inside s _ _ _ _ (by decide) (fun b hb => by cases hb)

theorem Sk.openR_data (s : List UInt8) : (Sk.openR s).2.2 ≤ 20000 ∧ (Sk.openR s).2.1.length ≤ (Sk.openR s).2.2 := by
  unfold Sk.openR
  split
  · exact ⟨by decide, by decide⟩
  · split
    · exact ⟨by decide, by decide⟩
    · exact Sk.openN_data s _ _ _ _ (by decide) (by decide)
end Go.Proofs.YtafkpmjifgohcaaDoor
