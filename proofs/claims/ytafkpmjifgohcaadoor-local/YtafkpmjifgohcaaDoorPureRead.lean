/- What reading a file gives, as plain functions on lists of bytes. -/
import Derived.Test.YtafkpmjifgohcaaDoorPureOpen2
import Derived.Test.YtafkpmjifgohcaaDoorPure2
namespace Go.Proofs.YtafkpmjifgohcaaDoor

/-- n bytes more, each the one d places ahead of it. -/
def Sk.cpy (d : Nat) : Nat → List UInt8 → List UInt8
  | 0, out => out
  | n + 1, out => Sk.cpy d n (out ++ [Sk.gt out (out.length - d)])

theorem Sk.cpy_length (d : Nat) : ∀ n out, (Sk.cpy d n out).length = out.length + n
  | 0, _ => rfl
  | n + 1, out => by rw [Sk.cpy, Sk.cpy_length d n, List.length_append]; simp; omega

theorem Sk.cpy_pre (d : Nat) : ∀ n out, ∃ m, Sk.cpy d n out = out ++ m
  | 0, out => ⟨[], by simp [Sk.cpy]⟩
  | n + 1, out => by
    obtain ⟨m, hm⟩ := Sk.cpy_pre d n (out ++ [Sk.gt out (out.length - d)])
    exact ⟨_, by rw [Sk.cpy, hm, List.append_assoc]⟩

theorem Sk.gt_app (pre out : List UInt8) (i : Nat) : Sk.gt (pre ++ out) (pre.length + i) = Sk.gt out i := by
  unfold Sk.gt
  rw [List.getD_eq_getElem?_getD, List.getD_eq_getElem?_getD, List.getElem?_append_right (by omega)]
  simp

/-- What stands ahead of the last fresh block does not matter. -/
theorem Sk.cpy_app (d : Nat) (pre : List UInt8) : ∀ n out, d ≤ out.length → Sk.cpy d n (pre ++ out) = pre ++ Sk.cpy d n out
  | 0, _, _ => rfl
  | n + 1, out, h => by
    rw [Sk.cpy, Sk.cpy, ← Sk.cpy_app d pre n _ (by rw [List.length_append]; omega), List.append_assoc, List.length_append, show pre.length + out.length - d = pre.length + (out.length - d) by omega, Sk.gt_app]

/-- Tokens from the place i on, behind out; most: how long out may get. -/
def Sk.unpN (p : List UInt8) (most : Nat) : Nat → Nat → List UInt8 → Option (List UInt8)
  | 0, _, _ => none
  | f + 1, i, out =>
    if i < p.length then
      if (Sk.gt p i).toNat < 128 then
        if p.length < i + 2 + (Sk.gt p i).toNat then none
        else if most < out.length + ((Sk.gt p i).toNat + 1) then none
        else Sk.unpN p most f (i + 2 + (Sk.gt p i).toNat) (out ++ Sk.sub p (i + 1) (i + 2 + (Sk.gt p i).toNat))
      else if p.length < i + 3 then none
      else if Sk.numAt p (i + 1) 2 < 1 ∨ out.length < Sk.numAt p (i + 1) 2 then none
      else if most < out.length + ((Sk.gt p i).toNat - 128 + 4) then none
      else Sk.unpN p most f (i + 3) (Sk.cpy (Sk.numAt p (i + 1) 2) ((Sk.gt p i).toNat - 128 + 4) out)
    else if out.length = most then some out else none

def Sk.unp (p : List UInt8) (size : Nat) (out : List UInt8) : Option (List UInt8) := Sk.unpN p (out.length + size) (p.length + 1) 0 out

/-- What is unpacked stands behind what there was, and is just as long as it must be. -/
theorem Sk.unpN_some (p : List UInt8) (most : Nat) : ∀ f i out o, Sk.unpN p most f i out = some o → o.length = most ∧ ∃ m, o = out ++ m
  | 0, _, _, _, h => by cases h
  | f + 1, i, out, o, h => by
    unfold Sk.unpN at h
    split at h
    · split at h
      · split at h
        · cases h
        · split at h
          · cases h
          · obtain ⟨h1, m, h2⟩ := Sk.unpN_some p most f _ _ o h
            exact ⟨h1, _, by rw [h2, List.append_assoc]⟩
      · split at h
        · cases h
        · split at h
          · cases h
          · split at h
            · cases h
            · obtain ⟨h1, m, h2⟩ := Sk.unpN_some p most f _ _ o h
              obtain ⟨m2, h3⟩ := Sk.cpy_pre (Sk.numAt p (i + 1) 2) ((Sk.gt p i).toNat - 128 + 4) out
              exact ⟨h1, _, by rw [h2, h3, List.append_assoc]⟩
    · split at h
      · next he => cases h; exact ⟨he, [], by simp⟩
      · cases h

theorem Sk.unp_some {p : List UInt8} {size : Nat} {out o : List UInt8} (h : Sk.unp p size out = some o) : ∃ m, o = out ++ m ∧ m.length = size := by
  obtain ⟨h1, m, h2⟩ := Sk.unpN_some p _ _ _ _ o h
  refine ⟨m, h2, ?_⟩
  rw [h2, List.length_append] at h1
  omega

/-- No block. -/
def Sk.Blk.nil : Sk.Blk := ⟨0, 0, 0, false⟩

/-- The packed bytes of a block. -/
def Sk.packedOf (s : List UInt8) (b : Sk.Blk) : List UInt8 := Sk.sub s (b.pos + 9) (b.pos + 9 + Sk.numAt s (b.pos + 3) 2)

/-- What comes of reading: the bytes; or why not (6: the sum, 7: the tokens), and which block. -/
inductive Sk.Got where
  | bad (why k : Nat)
  | good (out : List UInt8)

/-- Block k, behind out. -/
def Sk.atB (s : List UInt8) (b : Sk.Blk) (k : Nat) (out : List UInt8) : Sk.Got :=
  if Sk.sumOf (Sk.packedOf s b) = Sk.numAt s (b.pos + 5) 4 then
    match Sk.unp (Sk.packedOf s b) b.size out with
    | none => .bad 7 k
    | some o => .good o
  else .bad 6 k

def Sk.bk (bs : List Sk.Blk) (k : Nat) : Sk.Blk := bs.getD k Sk.Blk.nil

/-- The data from the last fresh block up to block k. -/
def Sk.upto (s : List UInt8) (bs : List Sk.Blk) : Nat → Sk.Got
  | 0 => Sk.atB s (Sk.bk bs 0) 0 []
  | k + 1 => if (Sk.bk bs (k + 1)).fresh then Sk.atB s (Sk.bk bs (k + 1)) (k + 1) [] else
    match Sk.upto s bs k with
    | .bad w j => .bad w j
    | .good out => Sk.atB s (Sk.bk bs (k + 1)) (k + 1) out

/-- The last fresh block at or ahead of block k. -/
def Sk.lastF (bs : List Sk.Blk) : Nat → Nat
  | 0 => 0
  | k + 1 => if (Sk.bk bs (k + 1)).fresh then k + 1 else Sk.lastF bs k

theorem Sk.lastF_le (bs : List Sk.Blk) : ∀ k, Sk.lastF bs k ≤ k
  | 0 => Nat.le_refl _
  | k + 1 => by
    unfold Sk.lastF
    split
    · exact Nat.le_refl _
    · have := Sk.lastF_le bs k; omega
end Go.Proofs.YtafkpmjifgohcaaDoor
