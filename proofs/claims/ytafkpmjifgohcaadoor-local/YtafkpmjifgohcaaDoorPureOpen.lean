/- What Open makes of a file's bytes: the error's number, or the blocks and how many bytes the data has. -/
import Derived.Test.YtafkpmjifgohcaaDoorRefNum
namespace Go.Proofs.YtafkpmjifgohcaaDoor

/-- A block: where its data begins, its size, where its header is, is it fresh? -/
structure Sk.Blk where
  frm : Nat
  size : Nat
  pos : Nat
  fresh : Bool

def Sk.Blk.cells (b : Sk.Blk) : List Value := [.int .i64 b.frm, .int .i64 b.size, .int .i64 b.pos, .bool b.fresh]
def Sk.cellsOf (bs : List Sk.Blk) : List Value := bs.flatMap Sk.Blk.cells

/-- Is a header's first byte, its size, its place and the data so far as they may be? -/
def Sk.badHdr (s : List UInt8) (p : Nat) (bs : List Sk.Blk) (d : Nat) : Bool :=
  decide (1 < (Sk.gt s p).toNat) || decide (Sk.numAt s (p + 1) 2 < 1) || decide (1024 < Sk.numAt s (p + 1) 2) || (bs.isEmpty && !((Sk.gt s p).toNat == 1)) || decide (20000 < d + Sk.numAt s (p + 1) 2)

def Sk.openN (s : List UInt8) : Nat → Nat → List Sk.Blk → Nat → Nat × List Sk.Blk × Nat
  | 0, _, bs, d => (0, bs, d)
  | f + 1, p, bs, d =>
    if p < s.length then
      if s.length < p + 9 then (4, [], 0)
      else if Sk.badHdr s p bs d then (3, [], 0)
      else if s.length < p + 9 + Sk.numAt s (p + 3) 2 then (4, [], 0)
      else Sk.openN s f (p + 9 + Sk.numAt s (p + 3) 2) (bs ++ [⟨d, Sk.numAt s (p + 1) 2, p, (Sk.gt s p).toNat == 1⟩]) (d + Sk.numAt s (p + 1) 2)
    else (0, bs, d)

theorem Sk.openN_end (s : List UInt8) (f p : Nat) (bs : List Sk.Blk) (d : Nat) (h : ¬ p < s.length) : Sk.openN s f p bs d = (0, bs, d) := by
  cases f
  · rfl
  · rw [Sk.openN, if_neg h]

def Sk.openR (s : List UInt8) : Nat × List Sk.Blk × Nat :=
  if 65536 < s.length then (1, [], 0) else if s.length < 3 ∨ s.take 3 ≠ [83, 75, 49] then (2, [], 0) else Sk.openN s s.length 3 [] 0

theorem Sk.cellsOf_length (bs : List Sk.Blk) : (Sk.cellsOf bs).length = bs.length * 4 := by
  induction bs with
  | nil => rfl
  | cons b bs ih => simp only [Sk.cellsOf, List.flatMap_cons, List.length_append] at ih ⊢; rw [ih]; simp [Sk.Blk.cells]; omega
theorem Sk.cellsOf_snoc (bs : List Sk.Blk) (b : Sk.Blk) : Sk.cellsOf (bs ++ [b]) = Sk.cellsOf bs ++ b.cells := by
  simp [Sk.cellsOf]
end Go.Proofs.YtafkpmjifgohcaaDoor
