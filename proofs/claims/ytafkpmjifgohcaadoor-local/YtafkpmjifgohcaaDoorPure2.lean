/- The packing of a block, as the program does it and as the document says it: one and the same list of bytes. -/
import Derived.Test.YtafkpmjifgohcaaDoorPure
namespace Go.Proofs.YtafkpmjifgohcaaDoor.Sk

/-- A part of a list. -/
def sub (s : List UInt8) (a b : Nat) : List UInt8 := (s.drop a).take (b - a)
theorem sub_length (s : List UInt8) (a b : Nat) (h : b ≤ s.length) : (sub s a b).length = b - a := by
  simp [sub]; omega

/-- The best match at a place. -/
def best (s : List UInt8) (r p t : Nat) : Nat × Nat := bestN s p (min (t - p) 131) (min (p - r) 65535) 1 0 0

theorem best_le (s : List UInt8) (r p t : Nat) (h : p ≤ t) : p + (best s r p t).1 ≤ t ∧ (best s r p t).1 ≤ 131 ∧ (best s r p t).2 ≤ 65535 := by
  have := bestN_le s p (min (t - p) 131) (min (p - r) 65535) 1 0 0 (by omega) (by omega)
  unfold best
  omega

/-- The program's packing: bytes up to 'run' are written. -/
def packPN (s : List UInt8) (r t : Nat) : Nat → Nat → Nat → List UInt8 → List UInt8
  | 0, run, _, acc => acc ++ runsOf (sub s run t)
  | k + 1, run, p, acc =>
    if p < t then
      if (best s r p t).1 < 4 then packPN s r t k run (p + 1) acc
      else packPN s r t k (p + (best s r p t).1) (p + (best s r p t).1) (acc ++ runsOf (sub s run p) ++ copyOf (best s r p t).2 (best s r p t).1)
    else acc ++ runsOf (sub s run t)

theorem packPN_end (s : List UInt8) (r t : Nat) (k run p : Nat) (acc : List UInt8) (h : ¬ p < t) : packPN s r t k run p acc = acc ++ runsOf (sub s run t) := by
  cases k
  · rfl
  · rw [packPN, if_neg h]

def packP (s : List UInt8) (r p t : Nat) : List UInt8 := packPN s r t (t - p) p p []

/-- A run, written. -/
def flush (run : List UInt8) : List UInt8 := if run = [] then [] else UInt8.ofNat (run.length - 1) :: run

/-- The document's packing: 'run' is what is not yet written. -/
def packRN (s : List UInt8) (r t : Nat) : Nat → Nat → List UInt8 → List UInt8 → List UInt8
  | 0, _, out, run => out ++ flush run
  | k + 1, p, out, run =>
    if p < t then
      if 4 ≤ (best s r p t).1 then packRN s r t k (p + (best s r p t).1) (out ++ flush run ++ copyOf (best s r p t).2 (best s r p t).1) []
      else if run.length = 128 then packRN s r t k (p + 1) (out ++ flush run) [gt s p]
      else packRN s r t k (p + 1) out (run ++ [gt s p])
    else out ++ flush run

theorem packRN_end (s : List UInt8) (r t : Nat) (k p : Nat) (out run : List UInt8) (h : ¬ p < t) : packRN s r t k p out run = out ++ flush run := by
  cases k
  · rfl
  · rw [packRN, if_neg h]

def packR (s : List UInt8) (r p t : Nat) : List UInt8 := packRN s r t (t - p) p [] []

end Go.Proofs.YtafkpmjifgohcaaDoor.Sk
