/- tokens.same counts the bytes that are the same from two places on.
The document's number of several bytes.
What Open makes of a file's bytes: the error's number, or the blocks and how many bytes the data has.
Where the blocks of a file lie, and what Open answers, as plain facts.
What reading a file gives, as plain functions on lists of bytes.
What Open's blocks are like, and what reading across them gives.
The law's own pick and put.
The document's search over all distances.
The document's sum of a string's bytes.
tokens.longest finds the best distance, as the document's search over all distances does.
A number that is read fits. -/
import Derived.Test.YtafkpmjifgohcaaGreatDoorRows
import Derived.Test.YtafkpmjifgohcaaGreatDoorOpensuptoPart1
import Derived.WalkKit
import Derived.WalkSpells
import Derived.WalkLawsBesides
import Derived.Deep.QuietTactic
import Derived.BigQuiet
namespace Go.Proofs.YtafkpmjifgohcaaGreatDoor
open Go.RowKit

theorem ret_nat {k : IntKind} {a b : Nat} (h : a = b) : Ending.returned (.int k (a : Int)) = .returned (.int k (b : Int)) := by rw [h]
theorem ret_int {k : IntKind} {a b : Int} (h : a = b) : Ending.returned (.int k a) = .returned (.int k b) := by rw [h]
theorem ret_back {n far : Nat} {z : Nat × Nat} (h : (n, far) = z) : Ending.returned (.tuple #[.int .i64 (far : Int), .int .i64 (n : Int)]) = .returned (.tuple #[.int .i64 (z.2 : Int), .int .i64 (z.1 : Int)]) := by rw [← h]
theorem ret_best {n far : Nat} {z : Nat × Nat} (h : (n, far) = z) : Ending.returned (.tuple #[.int .i64 (n : Int), .int .i64 (far : Int)]) = .returned (.tuple #[.int .i64 (z.1 : Int), .int .i64 (z.2 : Int)]) := by rw [← h]
theorem ret_str {a b : List UInt8} (h : a = b) : Ending.returned (.string ⟨a.toArray⟩) = .returned (.string ⟨b.toArray⟩) := by rw [h]
theorem val_str {a b : List UInt8} (h : a = b) : Value.string ⟨a.toArray⟩ = .string ⟨b.toArray⟩ := by rw [h]
theorem cat_str (a b : List UInt8) : ((⟨a.toArray⟩ : ByteArray) ++ (⟨b.toArray⟩ : ByteArray)) = ⟨(a ++ b).toArray⟩ := by
  apply ByteArray.ext
  simp

/-- The byte at a place of a string, by the list of its bytes. -/
theorem str_idx (s : ByteArray) (j : Nat) (i : Int) (hi : i = j) (hj : j < s.size) : ∀ w, (Instr.index 9 (.string s) (.int .i64 i)).run Tryz.prog w = .ok (.int .u8 (Sk.gt s.data.toList j).toNat) w := by
  intro w
  subst hi
  rw [run_index_string w 9 s .i64 j Tryz.underlying9, dif_pos ⟨by omega, by omega⟩]
  have : (s[(j : Int).toNat]'(by omega)) = Sk.gt s.data.toList j := by
    have hj' : j < s.data.toList.length := by simpa using hj
    unfold Sk.gt
    rw [List.getD_eq_getElem?_getD, List.getElem?_eq_getElem hj']
    rfl
  rw [this]

set_option maxHeartbeats 400000 in
theorem same_any (s : ByteArray) (e p most : Nat) (w : World) (hs : s.size ≤ 1000000) (he : e + most ≤ s.size) (hp : p + most ≤ s.size) :
    Calls Tryz.prog 79 #[.string s, .int .i64 e, .int .i64 p, .int .i64 most] w fun r w' => r = .returned (.int .i64 (Sk.sameN s.data.toList e p most 0)) ∧ ∃ q, w' = w.drewN q := by
  go_enter Tryz.func79, Tryz.ntmps79
  go_wp2
  go_loopw [9] (fun i wr => ∃ n q : Nat, n ≤ most ∧ i = .int .i64 n ∧ Sk.sameN s.data.toList e p (most - n) n = Sk.sameN s.data.toList e p most 0 ∧ wr = w.drewN q) (fun i _ => most - (intOf i).toNat)
  case atStart => exact ⟨0, 0, by omega, rfl, rfl, rfl⟩
  case round =>
    obtain ⟨n, q, hn, rfl, hinv, rfl⟩ := hrel
    have HI : Hid (Sk.sameN s.data.toList e p (most - n) n = Sk.sameN s.data.toList e p most 0) := hinv
    clear hinv
    by_cases hlt : n < most
    · have h1 : (n : Int) < most := by omega
      have h2 := str_idx s (e + n) ((e : Int) + n) (by omega) (by omega)
      have h3 := str_idx s (p + n) ((p : Int) + n) (by omega) (by omega)
      by_cases heq : Sk.gt s.data.toList (e + n) = Sk.gt s.data.toList (p + n)
      · have hb : (((Sk.gt s.data.toList (e + n)).toNat : Int) == ((Sk.gt s.data.toList (p + n)).toNat : Int)) = true := by simp [heq]
        have HI2 : Hid (Sk.sameN s.data.toList e p (most - (n + 1)) (n + 1) = Sk.sameN s.data.toList e p most 0) := by
          have := HI.out
          rw [show most - n = (most - (n + 1)) + 1 by omega, Sk.sameN, if_pos heq] at this
          exact this
        clear heq HI
        go_wp2_with fail
        go_quiet (fail)
        go_wp2
        go_roundw
        case rel => exact ⟨n + 1, _, by omega, by go_num, HI2.out, rfl⟩
        case measure => simp [intOf]; omega
      · have hb : (((Sk.gt s.data.toList (e + n)).toNat : Int) == ((Sk.gt s.data.toList (p + n)).toNat : Int)) = false := by
          rw [beq_eq_false_iff_ne]
          intro h
          exact heq (UInt8.toNat_inj.1 (by omega))
        have HI2 : Hid (n = Sk.sameN s.data.toList e p most 0) := by
          have := HI.out
          rw [show most - n = (most - (n + 1)) + 1 by omega, Sk.sameN, if_neg heq] at this
          exact this
        clear heq HI
        go_wp2_with fail
        go_quiet (fail)
        go_wp2
        go_ret
        exact ⟨ret_nat HI2.out, _, by rw [World.drewN_drewN]⟩
    · have hd : decide ((n : Int) < most) = false := by simp; omega
      have HI2 : Hid (n = Sk.sameN s.data.toList e p most 0) := by
        have := HI.out
        rw [show most - n = 0 by omega, Sk.sameN] at this
        exact this
      clear HI
      go_wp2_with fail
      go_quiet (fail)
      go_wp2
      go_ret
      exact ⟨ret_nat HI2.out, _, by rw [World.drewN_drewN]⟩

theorem same_at (s : ByteArray) (E P M : Int) (e p most : Nat) (w : World) (hE : E = e) (hP : P = p) (hM : M = most) (hs : s.size ≤ 1000000) (he : e + most ≤ s.size) (hp : p + most ≤ s.size) :
    Calls Tryz.prog 79 #[.string s, .int .i64 E, .int .i64 P, .int .i64 M] w fun r w' => r = .returned (.int .i64 (Sk.sameN s.data.toList e p most 0)) ∧ ∃ q, w' = w.drewN q := by
  subst hE hP hM
  exact same_any s e p most w hs he hp
end Go.Proofs.YtafkpmjifgohcaaGreatDoor

namespace Go.Proofs.YtafkpmjifgohcaaGreatDoor
open Go.RowKit

/-- A number of k bytes from a place on, the lowest first. -/
def Sk.numAt (s : List UInt8) : Nat → Nat → Nat
  | _, 0 => 0
  | p, k + 1 => (Sk.gt s p).toNat + 256 * Sk.numAt s (p + 1) k

theorem Sk.numAt_lt (s : List UInt8) : ∀ k p, Sk.numAt s p k < 256 ^ k
  | 0, _ => by simp [Sk.numAt]
  | k + 1, p => by
    have := Sk.numAt_lt s k (p + 1)
    have := UInt8.toNat_lt (Sk.gt s p)
    rw [Sk.numAt, Nat.pow_succ]
    omega

set_option maxHeartbeats 400000 in
theorem refNum_any (s : ByteArray) (p many : Nat) (w : World) (hs : s.size ≤ 1000000) (hm : many ≤ 4) (hp : p + many ≤ s.size) :
    Calls Tryz.prog 44 #[.string s, .int .i64 p, .int .i64 many] w fun e w' => e = .returned (.int .i64 (Sk.numAt s.data.toList p many)) ∧ w' = w := by
  go_enter Tryz.func44, Tryz.ntmps44
  go_wp2
  go_loop [7, 8] (fun a i => ∃ j x : Nat, j ≤ many ∧ i = .int .i64 ((j : Int) - 1) ∧ a = .int .i64 x ∧ x ≤ 4294967296 ∧ Sk.numAt s.data.toList (p + j) (many - j) = x) (fun _ i => (intOf i + 1).toNat)
  case atStart => exact ⟨many, 0, by omega, by go_num, rfl, by omega, by rw [Nat.sub_self]; rfl⟩
  case round =>
    obtain ⟨j, x, hj, rfl, rfl, hx, hinv⟩ := hrel
    have HI : Hid (Sk.numAt s.data.toList (p + j) (many - j) = x) := hinv
    clear hinv
    by_cases h0 : 0 < j
    · have h1 := str_idx s (p + j - 1) ((p : Int) + ((j : Int) - 1)) (by omega) (by omega)
      have hb := UInt8.toNat_lt (Sk.gt s.data.toList (p + j - 1))
      have HI2 : Hid (Sk.numAt s.data.toList (p + (j - 1)) (many - (j - 1)) = 256 * x + (Sk.gt s.data.toList (p + j - 1)).toNat) := by
        rw [show many - (j - 1) = (many - j) + 1 by omega, Sk.numAt, show p + (j - 1) + 1 = p + j by omega, HI.out, show p + (j - 1) = p + j - 1 by omega]
        show _ = _
        omega
      have hlt := Sk.numAt_lt s.data.toList (many - (j - 1)) (p + (j - 1))
      have hle : 256 ^ (many - (j - 1)) ≤ 256 ^ 4 := Nat.pow_le_pow_right (by decide) (by omega)
      have hx2 : 256 * x + (Sk.gt s.data.toList (p + j - 1)).toNat ≤ 4294967296 := by
        rw [HI2.out] at hlt
        have : (256 : Nat) ^ 4 = 4294967296 := by decide
        omega
      clear hlt hle
      generalize (Sk.gt s.data.toList (p + j - 1)).toNat = c at *
      go_wp2
      go_round
      case rel => exact ⟨j - 1, 256 * x + c, by omega, by go_num, by go_num, hx2, HI2.out⟩
      case measure => simp [intOf]; omega
    · obtain rfl : j = 0 := by omega
      go_wp2
      go_ret
      exact ⟨ret_nat (by rw [← HI.out]; rfl), rfl⟩

theorem refNum_at (s : ByteArray) (P M : Int) (p many : Nat) (w : World) (hP : P = p) (hM : M = many) (hs : s.size ≤ 1000000) (hm : many ≤ 4) (hp : p + many ≤ s.size) :
    Calls Tryz.prog 44 #[.string s, .int .i64 P, .int .i64 M] w fun e w' => e = .returned (.int .i64 (Sk.numAt s.data.toList p many)) ∧ w' = w := by
  subst hP hM
  exact refNum_any s p many w hs hm hp
end Go.Proofs.YtafkpmjifgohcaaGreatDoor

namespace Go.Proofs.YtafkpmjifgohcaaGreatDoor

/-- A block: where its data begins, its size, where its header is, is it fresh? -/
structure Sk.Blk where
  frm : Nat
  size : Nat
  pos : Nat
  fresh : Bool

def Sk.Blk.cells (b : Sk.Blk) : List Value := [.int .i64 b.frm, .int .i64 b.size, .int .i64 b.pos, .bool b.fresh]
def Sk.cellsOf (bs : List Sk.Blk) : List Value := bs.flatMap Sk.Blk.cells

/-- Is a header's first byte, its size, its place and the data so far as they may be? -/
def Sk.badHdr (s : List UInt8) (p : Nat) (bs : List Sk.Blk) (d : Nat) : Bool :=
  decide (1 < (Sk.gt s p).toNat) || decide (Sk.numAt s (p + 1) 2 < 1) || decide (1024 < Sk.numAt s (p + 1) 2) || (bs.isEmpty && !((Sk.gt s p).toNat == 1)) || decide (20000 < d + Sk.numAt s (p + 1) 2)

def Sk.openN (s : List UInt8) : Nat → Nat → List Sk.Blk → Nat → Nat × List Sk.Blk × Nat
  | 0, _, bs, d => (0, bs, d)
  | f + 1, p, bs, d =>
    if p < s.length then
      if s.length < p + 9 then (4, [], 0)
      else if Sk.badHdr s p bs d then (3, [], 0)
      else if s.length < p + 9 + Sk.numAt s (p + 3) 2 then (4, [], 0)
      else Sk.openN s f (p + 9 + Sk.numAt s (p + 3) 2) (bs ++ [⟨d, Sk.numAt s (p + 1) 2, p, (Sk.gt s p).toNat == 1⟩]) (d + Sk.numAt s (p + 1) 2)
    else (0, bs, d)

theorem Sk.openN_end (s : List UInt8) (f p : Nat) (bs : List Sk.Blk) (d : Nat) (h : ¬ p < s.length) : Sk.openN s f p bs d = (0, bs, d) := by
  cases f
  · rfl
  · rw [Sk.openN, if_neg h]

def Sk.openR (s : List UInt8) : Nat × List Sk.Blk × Nat :=
  if 65536 < s.length then (1, [], 0) else if s.length < 3 ∨ s.take 3 ≠ [83, 75, 49] then (2, [], 0) else Sk.openN s s.length 3 [] 0

theorem Sk.cellsOf_length (bs : List Sk.Blk) : (Sk.cellsOf bs).length = bs.length * 4 := by
  induction bs with
  | nil => rfl
  | cons b bs ih => simp only [Sk.cellsOf, List.flatMap_cons, List.length_append] at ih ⊢; rw [ih]; simp [Sk.Blk.cells]; omega
theorem Sk.cellsOf_snoc (bs : List Sk.Blk) (b : Sk.Blk) : Sk.cellsOf (bs ++ [b]) = Sk.cellsOf bs ++ b.cells := by
  simp [Sk.cellsOf]
end Go.Proofs.YtafkpmjifgohcaaGreatDoor

namespace Go.Proofs.YtafkpmjifgohcaaGreatDoor

/-- A block's header and packed bytes lie within the file. -/
def Sk.Inside (s : List UInt8) (b : Sk.Blk) : Prop := 3 ≤ b.pos ∧ b.pos + 9 + Sk.numAt s (b.pos + 3) 2 ≤ s.length

theorem Sk.openN_inside (s : List UInt8) : ∀ f p bs d, 3 ≤ p → (∀ b ∈ bs, Sk.Inside s b) → ∀ b ∈ (Sk.openN s f p bs d).2.1, Sk.Inside s b
  | 0, _, _, _, _, h => h
  | f + 1, p, bs, d, hp, h => by
    unfold Sk.openN
    split
    · split
      · intro b hb; cases hb
      · split
        · intro b hb; cases hb
        · split
          · intro b hb; cases hb
          · refine Sk.openN_inside s f _ _ _ (by omega) (fun b hb => ?_)
            rcases List.mem_append.1 hb with hb | hb
            · exact h b hb
            · have := List.mem_singleton.1 hb
              subst this
              exact ⟨hp, by show p + 9 + Sk.numAt s (p + 3) 2 ≤ _; omega⟩
    · exact h

theorem Sk.openN_data (s : List UInt8) : ∀ f p bs d, d ≤ 20000 → bs.length ≤ d → (Sk.openN s f p bs d).2.2 ≤ 20000 ∧ (Sk.openN s f p bs d).2.1.length ≤ (Sk.openN s f p bs d).2.2
  | 0, _, _, _, h, h2 => ⟨h, h2⟩
  | f + 1, p, bs, d, h, h2 => by
    unfold Sk.openN
    split
    · split
      · exact ⟨by decide, by decide⟩
      · split
        · exact ⟨by decide, by decide⟩
        · next hbad =>
          split
          · exact ⟨by decide, by decide⟩
          · have hb : Sk.badHdr s p bs d = false := by simpa using hbad
            unfold Sk.badHdr at hb
            simp only [Bool.or_eq_false_iff, decide_eq_false_iff_not] at hb
            refine Sk.openN_data s f _ _ _ (by omega) ?_
            rw [List.length_append]
            simp
            omega
    · exact ⟨h, h2⟩

theorem Sk.openR_inside (s : List UInt8) : ∀ b ∈ (Sk.openR s).2.1, Sk.Inside s b := by
  unfold Sk.openR
  split
  · intro b hb; cases hb
  · split
    · intro b hb; cases hb
    · exact Sk.openN_inside s _ _ _ _ (by decide) (fun b hb => by cases hb)

theorem Sk.openR_data (s : List UInt8) : (Sk.openR s).2.2 ≤ 20000 ∧ (Sk.openR s).2.1.length ≤ (Sk.openR s).2.2 := by
  unfold Sk.openR
  split
  · exact ⟨by decide, by decide⟩
  · split
    · exact ⟨by decide, by decide⟩
    · exact Sk.openN_data s _ _ _ _ (by decide) (by decide)
end Go.Proofs.YtafkpmjifgohcaaGreatDoor

namespace Go.Proofs.YtafkpmjifgohcaaGreatDoor

/-- n bytes more, each the one d places ahead of it. -/
def Sk.cpy (d : Nat) : Nat → List UInt8 → List UInt8
  | 0, out => out
  | n + 1, out => Sk.cpy d n (out ++ [Sk.gt out (out.length - d)])

theorem Sk.cpy_length (d : Nat) : ∀ n out, (Sk.cpy d n out).length = out.length + n
  | 0, _ => rfl
  | n + 1, out => by rw [Sk.cpy, Sk.cpy_length d n, List.length_append]; simp; omega

theorem Sk.cpy_pre (d : Nat) : ∀ n out, ∃ m, Sk.cpy d n out = out ++ m
  | 0, out => ⟨[], by simp [Sk.cpy]⟩
  | n + 1, out => by
    obtain ⟨m, hm⟩ := Sk.cpy_pre d n (out ++ [Sk.gt out (out.length - d)])
    exact ⟨_, by rw [Sk.cpy, hm, List.append_assoc]⟩

theorem Sk.gt_app (pre out : List UInt8) (i : Nat) : Sk.gt (pre ++ out) (pre.length + i) = Sk.gt out i := by
  unfold Sk.gt
  rw [List.getD_eq_getElem?_getD, List.getD_eq_getElem?_getD, List.getElem?_append_right (by omega)]
  simp

/-- What stands ahead of the last fresh block does not matter. -/
theorem Sk.cpy_app (d : Nat) (pre : List UInt8) : ∀ n out, d ≤ out.length → Sk.cpy d n (pre ++ out) = pre ++ Sk.cpy d n out
  | 0, _, _ => rfl
  | n + 1, out, h => by
    rw [Sk.cpy, Sk.cpy, ← Sk.cpy_app d pre n _ (by rw [List.length_append]; omega), List.append_assoc, List.length_append, show pre.length + out.length - d = pre.length + (out.length - d) by omega, Sk.gt_app]

/-- Tokens from the place i on, behind out; most: how long out may get. -/
def Sk.unpN (p : List UInt8) (most : Nat) : Nat → Nat → List UInt8 → Option (List UInt8)
  | 0, _, _ => none
  | f + 1, i, out =>
    if i < p.length then
      if (Sk.gt p i).toNat < 128 then
        if p.length < i + 2 + (Sk.gt p i).toNat then none
        else if most < out.length + ((Sk.gt p i).toNat + 1) then none
        else Sk.unpN p most f (i + 2 + (Sk.gt p i).toNat) (out ++ Sk.sub p (i + 1) (i + 2 + (Sk.gt p i).toNat))
      else if p.length < i + 3 then none
      else if Sk.numAt p (i + 1) 2 < 1 ∨ out.length < Sk.numAt p (i + 1) 2 then none
      else if most < out.length + ((Sk.gt p i).toNat - 128 + 4) then none
      else Sk.unpN p most f (i + 3) (Sk.cpy (Sk.numAt p (i + 1) 2) ((Sk.gt p i).toNat - 128 + 4) out)
    else if out.length = most then some out else none

def Sk.unp (p : List UInt8) (size : Nat) (out : List UInt8) : Option (List UInt8) := Sk.unpN p (out.length + size) (p.length + 1) 0 out

/-- What is unpacked stands behind what there was, and is just as long as it must be. -/
theorem Sk.unpN_some (p : List UInt8) (most : Nat) : ∀ f i out o, Sk.unpN p most f i out = some o → o.length = most ∧ ∃ m, o = out ++ m
  | 0, _, _, _, h => by cases h
  | f + 1, i, out, o, h => by
    unfold Sk.unpN at h
    split at h
    · split at h
      · split at h
        · cases h
        · split at h
          · cases h
          · obtain ⟨h1, m, h2⟩ := Sk.unpN_some p most f _ _ o h
            exact ⟨h1, _, by rw [h2, List.append_assoc]⟩
      · split at h
        · cases h
        · split at h
          · cases h
          · split at h
            · cases h
            · obtain ⟨h1, m, h2⟩ := Sk.unpN_some p most f _ _ o h
              obtain ⟨m2, h3⟩ := Sk.cpy_pre (Sk.numAt p (i + 1) 2) ((Sk.gt p i).toNat - 128 + 4) out
              exact ⟨h1, _, by rw [h2, h3, List.append_assoc]⟩
    · split at h
      · next he => cases h; exact ⟨he, [], by simp⟩
      · cases h

theorem Sk.unp_some {p : List UInt8} {size : Nat} {out o : List UInt8} (h : Sk.unp p size out = some o) : ∃ m, o = out ++ m ∧ m.length = size := by
  obtain ⟨h1, m, h2⟩ := Sk.unpN_some p _ _ _ _ o h
  refine ⟨m, h2, ?_⟩
  rw [h2, List.length_append] at h1
  omega

/-- No block. -/
def Sk.Blk.nil : Sk.Blk := ⟨0, 0, 0, false⟩

/-- The packed bytes of a block. -/
def Sk.packedOf (s : List UInt8) (b : Sk.Blk) : List UInt8 := Sk.sub s (b.pos + 9) (b.pos + 9 + Sk.numAt s (b.pos + 3) 2)

/-- What comes of reading: the bytes; or why not (6: the sum, 7: the tokens), and which block. -/
inductive Sk.Got where
  | bad (why k : Nat)
  | good (out : List UInt8)

/-- Block k, behind out. -/
def Sk.atB (s : List UInt8) (b : Sk.Blk) (k : Nat) (out : List UInt8) : Sk.Got :=
  if Sk.sumOf (Sk.packedOf s b) = Sk.numAt s (b.pos + 5) 4 then
    match Sk.unp (Sk.packedOf s b) b.size out with
    | none => .bad 7 k
    | some o => .good o
  else .bad 6 k

def Sk.bk (bs : List Sk.Blk) (k : Nat) : Sk.Blk := bs.getD k Sk.Blk.nil

/-- The data from the last fresh block up to block k. -/
def Sk.upto (s : List UInt8) (bs : List Sk.Blk) : Nat → Sk.Got
  | 0 => Sk.atB s (Sk.bk bs 0) 0 []
  | k + 1 => if (Sk.bk bs (k + 1)).fresh then Sk.atB s (Sk.bk bs (k + 1)) (k + 1) [] else
    match Sk.upto s bs k with
    | .bad w j => .bad w j
    | .good out => Sk.atB s (Sk.bk bs (k + 1)) (k + 1) out

/-- The last fresh block at or ahead of block k. -/
def Sk.lastF (bs : List Sk.Blk) : Nat → Nat
  | 0 => 0
  | k + 1 => if (Sk.bk bs (k + 1)).fresh then k + 1 else Sk.lastF bs k

theorem Sk.lastF_le (bs : List Sk.Blk) : ∀ k, Sk.lastF bs k ≤ k
  | 0 => Nat.le_refl _
  | k + 1 => by
    unfold Sk.lastF
    split
    · exact Nat.le_refl _
    · have := Sk.lastF_le bs k; omega
end Go.Proofs.YtafkpmjifgohcaaGreatDoor

namespace Go.Proofs.YtafkpmjifgohcaaGreatDoor

/-- Blocks as Open finds them. -/
structure Sk.Good (s : List UInt8) (bs : List Sk.Blk) (d : Nat) : Prop where
  ins : ∀ k, k < bs.length → Sk.Inside s (Sk.bk bs k)
  fst : 0 < bs.length → (Sk.bk bs 0).fresh = true ∧ (Sk.bk bs 0).frm = 0
  nxt : ∀ k, k + 1 < bs.length → (Sk.bk bs (k + 1)).frm = (Sk.bk bs k).frm + (Sk.bk bs k).size
  siz : ∀ k, k < bs.length → 1 ≤ (Sk.bk bs k).size ∧ (Sk.bk bs k).size ≤ 1024
  emp : bs.length = 0 → d = 0
  lst : ∀ k, k + 1 = bs.length → d = (Sk.bk bs k).frm + (Sk.bk bs k).size
  dat : d ≤ 20000

theorem Sk.bk_left (bs : List Sk.Blk) (b : Sk.Blk) (k : Nat) (h : k < bs.length) : Sk.bk (bs ++ [b]) k = Sk.bk bs k := by
  unfold Sk.bk
  rw [List.getD_eq_getElem?_getD, List.getD_eq_getElem?_getD, List.getElem?_append_left h]
theorem Sk.bk_last (bs : List Sk.Blk) (b : Sk.Blk) : Sk.bk (bs ++ [b]) bs.length = b := by
  unfold Sk.bk
  simp [List.getD_eq_getElem?_getD]

theorem Sk.Good.nil (s : List UInt8) : Sk.Good s [] 0 :=
  ⟨fun _ h => absurd h (Nat.not_lt_zero _), fun h => absurd h (Nat.not_lt_zero _), fun _ h => absurd h (Nat.not_lt_zero _), fun _ h => absurd h (Nat.not_lt_zero _), fun _ => rfl, fun _ h => absurd h (Nat.succ_ne_zero _), by decide⟩

theorem Sk.Good.more {s : List UInt8} {bs : List Sk.Blk} {d : Nat} (h : Sk.Good s bs d) (b : Sk.Blk) (hi : Sk.Inside s b) (hf : bs.length = 0 → b.fresh = true) (he : b.frm = d) (h1 : 1 ≤ b.size) (h2 : b.size ≤ 1024) (h3 : d + b.size ≤ 20000) : Sk.Good s (bs ++ [b]) (d + b.size) := by
  have hl : (bs ++ [b]).length = bs.length + 1 := by simp
  refine ⟨fun k hk => ?_, fun _ => ?_, fun k hk => ?_, fun k hk => ?_, fun hk => ?_, fun k hk => ?_, h3⟩
  · by_cases c : k < bs.length
    · rw [Sk.bk_left _ _ _ c]; exact h.ins k c
    · rw [show k = bs.length by omega, Sk.bk_last]; exact hi
  · by_cases c : 0 < bs.length
    · rw [Sk.bk_left _ _ _ c]; exact h.fst c
    · have c0 : bs.length = 0 := by omega
      have := Sk.bk_last bs b
      rw [c0] at this
      rw [this]
      exact ⟨hf c0, by rw [he]; exact h.emp c0⟩
  · by_cases c : k + 1 < bs.length
    · rw [Sk.bk_left _ _ _ c, Sk.bk_left _ _ _ (by omega)]; exact h.nxt k c
    · have e : k + 1 = bs.length := by omega
      rw [Sk.bk_left _ _ k (by omega), e, Sk.bk_last, he]; exact h.lst k e
  · by_cases c : k < bs.length
    · rw [Sk.bk_left _ _ _ c]; exact h.siz k c
    · rw [show k = bs.length by omega, Sk.bk_last]; exact ⟨h1, h2⟩
  · omega
  · rw [show k = bs.length by omega, Sk.bk_last, he]

theorem Sk.openN_good (s : List UInt8) : ∀ f p bs d, 3 ≤ p → Sk.Good s bs d → Sk.Good s (Sk.openN s f p bs d).2.1 (Sk.openN s f p bs d).2.2
  | 0, _, _, _, _, h => h
  | f + 1, p, bs, d, hp, h => by
    unfold Sk.openN
    split
    · split
      · exact Sk.Good.nil s
      · split
        · exact Sk.Good.nil s
        · next hbad =>
          split
          · exact Sk.Good.nil s
          · have hb : Sk.badHdr s p bs d = false := by simpa using hbad
            unfold Sk.badHdr at hb
            simp only [Bool.or_eq_false_iff, decide_eq_false_iff_not, Bool.and_eq_false_iff] at hb
            refine Sk.openN_good s f _ _ _ (by omega) (h.more ⟨d, Sk.numAt s (p + 1) 2, p, (Sk.gt s p).toNat == 1⟩ ⟨hp, by show p + 9 + Sk.numAt s (p + 3) 2 ≤ _; omega⟩ (fun h0 => ?_) rfl (by show 1 ≤ Sk.numAt s (p + 1) 2; omega) (by show Sk.numAt s (p + 1) 2 ≤ 1024; omega) (by show d + Sk.numAt s (p + 1) 2 ≤ 20000; omega))
            rcases hb.1.2 with h' | h'
            · have := List.length_eq_zero_iff.1 h0
              subst this
              cases h'
            · show ((Sk.gt s p).toNat == 1) = true
              simpa using h'
    · exact h

theorem Sk.openR_good (s : List UInt8) : Sk.Good s (Sk.openR s).2.1 (Sk.openR s).2.2 := by
  unfold Sk.openR
  split
  · exact Sk.Good.nil s
  · split
    · exact Sk.Good.nil s
    · exact Sk.openN_good s _ _ _ _ (by decide) (Sk.Good.nil s)

section
variable {s : List UInt8} {bs : List Sk.Blk} {d : Nat}

theorem Sk.Good.lastF_fresh (h : Sk.Good s bs d) : ∀ k, k < bs.length → (Sk.bk bs (Sk.lastF bs k)).fresh = true
  | 0, hk => (h.fst hk).1
  | k + 1, hk => by
    unfold Sk.lastF
    split
    · assumption
    · exact h.lastF_fresh k (by omega)

theorem Sk.lastF_of_fresh (bs : List Sk.Blk) : ∀ k, (Sk.bk bs k).fresh = true → Sk.lastF bs k = k
  | 0, _ => rfl
  | k + 1, h => by rw [Sk.lastF, if_pos h]
theorem Sk.lastF_not_fresh (bs : List Sk.Blk) (k : Nat) (h : (Sk.bk bs (k + 1)).fresh = false) : Sk.lastF bs (k + 1) = Sk.lastF bs k := by
  rw [Sk.lastF, if_neg (by rw [h]; decide)]

theorem Sk.lastF_ge (bs : List Sk.Blk) (first : Nat) (hf : (Sk.bk bs first).fresh = true) : ∀ m, first ≤ Sk.lastF bs (first + m)
  | 0 => by rw [Nat.add_zero, Sk.lastF_of_fresh bs first hf]; exact Nat.le_refl _
  | m + 1 => by
    rw [← Nat.add_assoc, Sk.lastF]
    split
    · omega
    · exact Sk.lastF_ge bs first hf m

theorem Sk.Good.frm_le (h : Sk.Good s bs d) (i : Nat) : ∀ m, i + m < bs.length → (Sk.bk bs i).frm ≤ (Sk.bk bs (i + m)).frm
  | 0, _ => Nat.le_refl _
  | m + 1, hm => by
    have := h.frm_le i m (by omega)
    have := h.nxt (i + m) (by omega)
    rw [← Nat.add_assoc]
    omega

theorem Sk.upto_fresh (s : List UInt8) (bs : List Sk.Blk) : ∀ k, (Sk.bk bs k).fresh = true → Sk.upto s bs k = Sk.atB s (Sk.bk bs k) k []
  | 0, _ => rfl
  | k + 1, h => by rw [Sk.upto, if_pos h]

theorem Sk.atB_good {b : Sk.Blk} {k : Nat} {out o : List UInt8} (h : Sk.atB s b k out = .good o) : ∃ m, o = out ++ m ∧ m.length = b.size := by
  unfold Sk.atB at h
  split at h
  · cases hu : Sk.unp (Sk.packedOf s b) b.size out with
    | none => rw [hu] at h; cases h
    | some o' => rw [hu] at h; cases h; exact Sk.unp_some hu
  · cases h
theorem Sk.atB_bad {b : Sk.Blk} {k : Nat} {out : List UInt8} {w j : Nat} (h : Sk.atB s b k out = .bad w j) : j = k ∧ (w = 6 ∨ w = 7) := by
  unfold Sk.atB at h
  split at h
  · cases hu : Sk.unp (Sk.packedOf s b) b.size out with
    | none => rw [hu] at h; cases h; exact ⟨rfl, .inr rfl⟩
    | some o' => rw [hu] at h; cases h
  · cases h; exact ⟨rfl, .inl rfl⟩

/-- What is read behind a block that is good. -/
theorem Sk.upto_step (s : List UInt8) (bs : List Sk.Blk) (k : Nat) (hk : (Sk.bk bs (k + 1)).fresh = false) (out : List UInt8) (h : Sk.upto s bs k = .good out) : Sk.upto s bs (k + 1) = Sk.atB s (Sk.bk bs (k + 1)) (k + 1) out := by
  rw [Sk.upto, if_neg (by rw [hk]; decide), h]
theorem Sk.upto_stay (s : List UInt8) (bs : List Sk.Blk) (k : Nat) (hk : (Sk.bk bs (k + 1)).fresh = false) (w j : Nat) (h : Sk.upto s bs k = .bad w j) : Sk.upto s bs (k + 1) = .bad w j := by
  rw [Sk.upto, if_neg (by rw [hk]; decide), h]

/-- The data of the blocks from first on, m of them. -/
def Sk.dataN (s : List UInt8) (bs : List Sk.Blk) (first : Nat) : Nat → Sk.Got
  | 0 => .good []
  | m + 1 => match Sk.dataN s bs first m with
    | .bad w j => .bad w j
    | .good data => match Sk.upto s bs (first + m) with
      | .bad w j => .bad w j
      | .good out => .good (data ++ out.drop (out.length - (Sk.bk bs (first + m)).size))

theorem Sk.dataN_step {first m : Nat} {data : List UInt8} (h : Sk.dataN s bs first m = .good data) : Sk.dataN s bs first (m + 1) = match Sk.upto s bs (first + m) with
      | .bad w j => .bad w j
      | .good out => .good (data ++ out.drop (out.length - (Sk.bk bs (first + m)).size)) := by
  rw [Sk.dataN, h]
theorem Sk.dataN_stay {first m : Nat} {w j : Nat} (h : Sk.dataN s bs first m = .bad w j) : ∀ k, Sk.dataN s bs first (m + k) = .bad w j
  | 0 => h
  | k + 1 => by rw [← Nat.add_assoc, Sk.dataN, Sk.dataN_stay h k]

theorem Sk.sub_app_left (x y : List UInt8) (a b : Nat) (h : b ≤ x.length) : Sk.sub (x ++ y) a b = Sk.sub x a b := by
  unfold Sk.sub
  rcases Nat.lt_or_ge b a with c | c
  · rw [show b - a = 0 by omega]; simp
  · rw [List.drop_append_of_le_length (by omega), List.take_append_of_le_length (by rw [List.length_drop]; omega)]
theorem Sk.sub_end (x : List UInt8) (a : Nat) : Sk.sub x a x.length = x.drop a := by
  unfold Sk.sub
  rw [List.take_of_length_le (by rw [List.length_drop]; omega)]

/-- What was read up to each block stands in the data. -/
theorem Sk.Good.data (h : Sk.Good s bs d) {first : Nat} (hf : (Sk.bk bs first).fresh = true) : ∀ m data, first + m ≤ bs.length → Sk.dataN s bs first m = .good data →
    (m = 0 → data = []) ∧ (0 < m → data.length + (Sk.bk bs first).frm = (Sk.bk bs (first + m - 1)).frm + (Sk.bk bs (first + m - 1)).size) ∧
    ∀ n, n < m → Sk.upto s bs (first + n) = .good (Sk.sub data ((Sk.bk bs (Sk.lastF bs (first + n))).frm - (Sk.bk bs first).frm) ((Sk.bk bs (first + n)).frm + (Sk.bk bs (first + n)).size - (Sk.bk bs first).frm))
  | 0, data, _, hd => by cases hd; exact ⟨fun _ => rfl, fun h => by omega, fun n hn => by omega⟩
  | m + 1, data, hm, hd => by
    refine ⟨fun h => by omega, ?_⟩
    cases hp : Sk.dataN s bs first m with
    | bad w j => rw [Sk.dataN, hp] at hd; cases hd
    | good dat0 =>
      rw [Sk.dataN_step hp] at hd
      obtain ⟨i1, i2, i3⟩ := h.data hf m dat0 (by omega) hp
      cases hu : Sk.upto s bs (first + m) with
      | bad w j => rw [hu] at hd; cases hd
      | good out =>
        rw [hu] at hd
        simp only [Sk.Got.good.injEq] at hd
        have F : (Sk.bk bs first).frm ≤ (Sk.bk bs (first + m)).frm := h.frm_le first m (by omega)
        have L0 : dat0.length + (Sk.bk bs first).frm = (Sk.bk bs (first + m)).frm := by
          rcases Nat.eq_zero_or_pos m with e | e
          · subst e; rw [i1 rfl]; simp
          · have := i2 e
            have n := h.nxt (first + m - 1) (by omega)
            rw [show first + m - 1 + 1 = first + m by omega] at n
            omega
        have key : ∃ t, t.length = (Sk.bk bs (first + m)).size ∧ out = Sk.sub dat0 ((Sk.bk bs (Sk.lastF bs (first + m))).frm - (Sk.bk bs first).frm) dat0.length ++ t := by
          cases hfr : (Sk.bk bs (first + m)).fresh with
          | true =>
            rw [Sk.upto_fresh _ _ _ hfr] at hu
            obtain ⟨t, e1, e2⟩ := Sk.atB_good hu
            refine ⟨t, e2, ?_⟩
            rw [e1, Sk.lastF_of_fresh _ _ hfr, Sk.sub_end, List.drop_eq_nil_of_le (by omega)]
          | false =>
            have hm0 : 0 < m := by
              rcases Nat.eq_zero_or_pos m with e | e
              · subst e; rw [Nat.add_zero, hf] at hfr; cases hfr
              · exact e
            have e' : first + (m - 1) + 1 = first + m := by omega
            have p := i3 (m - 1) (by omega)
            rw [← e'] at hu hfr
            rw [Sk.upto_step _ _ _ hfr _ p] at hu
            obtain ⟨t, e1, e2⟩ := Sk.atB_good hu
            rw [e'] at e2
            refine ⟨t, e2, ?_⟩
            have n := h.nxt (first + m - 1) (by omega)
            rw [show first + m - 1 + 1 = first + m by omega] at n
            rw [e1, ← e', Sk.lastF_not_fresh _ _ hfr, show (Sk.bk bs (first + (m - 1))).frm + (Sk.bk bs (first + (m - 1))).size - (Sk.bk bs first).frm = dat0.length by rw [show first + (m - 1) = first + m - 1 by omega]; omega]
        obtain ⟨t, ht, ho⟩ := key
        have hd' : data = dat0 ++ t := by
          rw [← hd, ho, List.length_append, ht, Nat.add_sub_cancel, List.drop_left]
        have hl : data.length = dat0.length + (Sk.bk bs (first + m)).size := by rw [hd', List.length_append, ht]
        refine ⟨fun _ => by rw [show first + (m + 1) - 1 = first + m by omega]; omega, fun n hn => ?_⟩
        by_cases c : n < m
        · rw [i3 n c, hd', Sk.sub_app_left]
          have := h.nxt (first + n) (by omega)
          have := h.frm_le (first + n + 1) (m - n - 1) (by omega)
          rw [show first + n + 1 + (m - n - 1) = first + m by omega] at this
          omega
        · have e : n = m := by omega
          subst e
          rw [hu, ho]
          have g := h.frm_le (Sk.lastF bs (first + n)) (first + n - Sk.lastF bs (first + n)) (by have := Sk.lastF_le bs (first + n); omega)
          rw [show Sk.lastF bs (first + n) + (first + n - Sk.lastF bs (first + n)) = first + n by have := Sk.lastF_le bs (first + n); omega] at g
          rw [show (Sk.bk bs (first + n)).frm + (Sk.bk bs (first + n)).size - (Sk.bk bs first).frm = data.length by omega, Sk.sub_end, Sk.sub_end, hd', List.drop_append_of_le_length (by omega)]

/-- The first bad one. -/
theorem Sk.dataN_bad {first : Nat} (hf : (Sk.bk bs first).fresh = true) : ∀ m w j, Sk.dataN s bs first m = .bad w j → first ≤ j ∧ j < first + m ∧ Sk.upto s bs j = .bad w j ∧ ∃ data, Sk.dataN s bs first (j - first) = .good data
  | 0, _, _, h => by cases h
  | m + 1, w, j, h => by
    cases hp : Sk.dataN s bs first m with
    | bad w' j' =>
      rw [Sk.dataN, hp] at h
      cases h
      obtain ⟨a, b, c, e⟩ := Sk.dataN_bad hf m w j hp
      exact ⟨a, by omega, c, e⟩
    | good dat0 =>
      rw [Sk.dataN_step hp] at h
      cases hu : Sk.upto s bs (first + m) with
      | good out => rw [hu] at h; cases h
      | bad w' j' =>
        rw [hu] at h
        cases h
        have hj : j = first + m := by
          cases hfr : (Sk.bk bs (first + m)).fresh with
          | true => rw [Sk.upto_fresh _ _ _ hfr] at hu; exact (Sk.atB_bad hu).1
          | false =>
            have hm0 : 0 < m := by
              rcases Nat.eq_zero_or_pos m with e | e
              · subst e; rw [Nat.add_zero, hf] at hfr; cases hfr
              · exact e
            obtain ⟨m, rfl⟩ : ∃ n, m = n + 1 := ⟨m - 1, by omega⟩
            rw [← Nat.add_assoc] at hu hfr ⊢
            cases hq : Sk.dataN s bs first m with
            | bad w' j' => rw [Sk.dataN, hq] at hp; cases hp
            | good dat1 =>
              rw [Sk.dataN_step hq] at hp
              cases hv : Sk.upto s bs (first + m) with
              | bad w' j' => rw [hv] at hp; cases hp
              | good out =>
                rw [Sk.upto_step _ _ _ hfr _ hv] at hu
                exact (Sk.atB_bad hu).1
        refine ⟨by omega, by omega, by rw [hj]; rw [hj] at hu; exact hu, dat0, by rw [hj, show first + m - first = m by omega]; exact hp⟩
end
end Go.Proofs.YtafkpmjifgohcaaGreatDoor

namespace Go.Proofs.YtafkpmjifgohcaaGreatDoor
open Go.RowKit

/-- A number that fits an int. -/
def Fits (c : Int) : Prop := -9223372036854775808 ≤ c ∧ c ≤ 9223372036854775807

theorem wrap_fits (c : Int) (h : Fits c) : IntKind.i64.wrap c = c := by
  obtain ⟨h1, h2⟩ := h
  rw [IntKind.wrap_i64]
  omega

set_option maxHeartbeats 400000 in
theorem pick_any (c : Int) (n : Nat) (w : World) (hc : Fits c) (hn : 0 < n) (hn2 : n ≤ 1000000000000000) :
    Calls Tryz.prog 11 #[.int .i64 c, .int .i64 n] w fun e w' => ∃ k : Nat, k < n ∧ e = .returned (.int .i64 k) ∧ w' = w := by
  by_cases h0 : 0 ≤ c
  · have HF : Hid (∃ k : Nat, k < n ∧ (k : Int) = c % (n : Int)) := by
      refine ⟨(c % (n : Int)).toNat, ?_, ?_⟩
      · have := Int.emod_lt_of_pos c (show (0 : Int) < n by omega); have := Int.emod_nonneg c (show (n : Int) ≠ 0 by omega); omega
      · have := Int.emod_nonneg c (show (n : Int) ≠ 0 by omega); omega
    have hnb : ((n : Int) == 0) = false := by rw [beq_eq_false_iff_ne]; omega
    clear hc
    go_enter Tryz.func11, Tryz.ntmps11
    go_wp2
    go_ret
    obtain ⟨k, hk, e⟩ := HF.out
    exact ⟨k, hk, ret_int (by rw [e]), rfl⟩
  · have h1 : Fits (c + 1) := ⟨by have := hc.1; omega, by omega⟩
    have h2 : Fits (-(c + 1)) := ⟨by omega, by have := hc.1; omega⟩
    have w1 := wrap_fits _ h1
    have w2 := wrap_fits _ h2
    obtain ⟨y, hy⟩ : ∃ y : Nat, (y : Int) = -(c + 1) := ⟨(-(c + 1)).toNat, by omega⟩
    have hneg : c < 0 := by omega
    clear hc h1 h2 h0
    go_enter Tryz.func11, Tryz.ntmps11
    go_wp2
    go_ret
    refine ⟨y % n, Nat.mod_lt _ hn, ret_int ?_, rfl⟩
    rw [← Int.neg_tmod, ← hy]
    exact Int.ofNat_tmod y n

theorem pick_at (c N : Int) (n : Nat) (w : World) (hN : N = n) (hc : Fits c) (hn : 0 < n) (hn2 : n ≤ 1000000000000000) :
    Calls Tryz.prog 11 #[.int .i64 c, .int .i64 N] w fun e w' => ∃ k : Nat, k < n ∧ e = .returned (.int .i64 k) ∧ w' = w := by
  subst hN
  exact pick_any c n w hc hn hn2

set_option maxHeartbeats 400000 in
theorem put_any (s t : ByteArray) (p : Nat) (w : World) (hs : s.size ≤ 1000000000000000) (hp : p + t.size ≤ s.size) :
    Calls Tryz.prog 39 #[.string s, .int .i64 p, .string t] w fun e w' => ∃ u : ByteArray, e = .returned (.string u) ∧ u.size = s.size ∧ ∃ q, w' = w.drewN q := by
  have h1 : (p : Int) ≤ (s.size : Int) := by omega
  have h2 : (p : Int) + (t.size : Int) ≤ (s.size : Int) := by omega
  go_enter Tryz.func39, Tryz.ntmps39
  go_wp2
  go_quiet (fail)
  go_wp2
  go_ret
  refine ⟨_, rfl, ?_, _, rfl⟩
  simp only [ByteArray.size_append, ByteArray.size_extract]
  omega

theorem put_at (s t : ByteArray) (P : Int) (p : Nat) (w : World) (hP : P = p) (hs : s.size ≤ 1000000000000000) (hp : p + t.size ≤ s.size) :
    Calls Tryz.prog 39 #[.string s, .int .i64 P, .string t] w fun e w' => ∃ u : ByteArray, e = .returned (.string u) ∧ u.size = s.size ∧ ∃ q, w' = w.drewN q := by
  subst hP
  exact put_any s t p w hs hp
end Go.Proofs.YtafkpmjifgohcaaGreatDoor

namespace Go.Proofs.YtafkpmjifgohcaaGreatDoor
open Go.RowKit

set_option maxHeartbeats 800000 in
theorem refMatch_any (s : ByteArray) (r p t : Nat) (w : World) (hs : s.size ≤ 1000000) (hr : r ≤ p) (hp : p ≤ t) (ht : t ≤ s.size) :
    Calls Tryz.prog 60 #[.string s, .int .i64 r, .int .i64 p, .int .i64 t] w fun e w' =>
      e = .returned (.tuple #[.int .i64 (Sk.bestN s.data.toList p (min (t - p) 131) (min (p - r) 65535) 1 0 0).1, .int .i64 (Sk.bestN s.data.toList p (min (t - p) 131) (min (p - r) 65535) 1 0 0).2]) ∧ ∃ q, w' = w.drewN q := by
  obtain ⟨m, hm⟩ : ∃ m, m = min (t - p) 131 := ⟨_, rfl⟩
  obtain ⟨f, hf⟩ : ∃ f, f = min (p - r) 65535 := ⟨_, rfl⟩
  have m1 : p + m ≤ t := by omega
  have m2 : m ≤ 131 := by omega
  have m3 : Hid (m = t - p ∨ m = 131) := by show _ ∨ _; omega
  have f1 : r + f ≤ p := by omega
  have f2 : f ≤ 65535 := by omega
  have f3 : Hid (f = p - r ∨ f = 65535) := by show _ ∨ _; omega
  rw [← hm, ← hf]
  clear hm hf
  go_enter Tryz.func60, Tryz.ntmps60
  go_wp2
  go_loopw [10, 11, 12] (fun c b i wr => ∃ d n far q : Nat, 1 ≤ d ∧ d ≤ f + 1 ∧ n ≤ m ∧ far < d ∧ i = .int .i64 d ∧ c = .int .i64 n ∧ b = .int .i64 far ∧ Sk.bestN s.data.toList p m (f + 1 - d) d n far = Sk.bestN s.data.toList p m f 1 0 0 ∧ wr = w.drewN q) (fun _ _ i _ => f + 1 - (intOf i).toNat)
  case atStart => exact ⟨1, 0, 0, 0, by omega, by omega, by omega, by omega, rfl, rfl, rfl, by rw [Nat.add_sub_cancel], rfl⟩
  case round =>
    obtain ⟨d, n, far, q, hd1, hd2, hn, hfar, rfl, rfl, rfl, hinv, rfl⟩ := hrel
    have HI : Hid (Sk.bestN s.data.toList p m (f + 1 - d) d n far = Sk.bestN s.data.toList p m f 1 0 0) := hinv
    clear hinv
    by_cases hlt : d ≤ f
    · have hle := (Sk.sameN_le s.data.toList (p - d) p m 0).2
      have HI1 : Hid (n < Sk.sameN s.data.toList (p - d) p m 0 → Sk.bestN s.data.toList p m (f + 1 - (d + 1)) (d + 1) (Sk.sameN s.data.toList (p - d) p m 0) d = Sk.bestN s.data.toList p m f 1 0 0) := fun h => by
        have := HI.out
        rw [show f + 1 - d = (f + 1 - (d + 1)) + 1 by omega, Sk.bestN, if_pos h] at this
        exact this
      have HI2 : Hid (¬ n < Sk.sameN s.data.toList (p - d) p m 0 → Sk.bestN s.data.toList p m (f + 1 - (d + 1)) (d + 1) n far = Sk.bestN s.data.toList p m f 1 0 0) := fun h => by
        have := HI.out
        rw [show f + 1 - d = (f + 1 - (d + 1)) + 1 by omega, Sk.bestN, if_neg h] at this
        exact this
      clear HI
      have h1 : (d : Int) ≤ 65535 := by omega
      have h2 : (r : Int) ≤ (p : Int) - d := by omega
      generalize hg : Sk.sameN s.data.toList (p - d) p m 0 = g at *
      have HG : Hid (Sk.sameN s.data.toList (p - d) p m 0 = g) := hg
      clear hg
      go_wp2
      go_loopw [13] (fun i wr => ∃ k q : Nat, k ≤ m ∧ i = .int .i64 k ∧ Sk.sameN s.data.toList (p - d) p (m - k) k = g ∧ wr = w.drewN q) (fun i _ => m - (intOf i).toNat)
      case atStart => exact ⟨0, q, by omega, rfl, HG.out, rfl⟩
      case round =>
        obtain ⟨k, q1, hk, rfl, hinv, rfl⟩ := hrel
        have HJ : Hid (Sk.sameN s.data.toList (p - d) p (m - k) k = g) := hinv
        clear hinv
        by_cases hkm : k < m
        · have a1 : (p : Int) + k < t := by omega
          have a2 : (k : Int) < 131 := by omega
          have a3 := str_idx s (p + k) ((p : Int) + k) (by omega) (by omega)
          have a4 := str_idx s (p - d + k) ((p : Int) + k - d) (by omega) (by omega)
          by_cases heq : Sk.gt s.data.toList (p - d + k) = Sk.gt s.data.toList (p + k)
          · have hb : (((Sk.gt s.data.toList (p + k)).toNat : Int) == ((Sk.gt s.data.toList (p - d + k)).toNat : Int)) = true := by simp [heq]
            have HJ2 : Hid (Sk.sameN s.data.toList (p - d) p (m - (k + 1)) (k + 1) = g) := by
              have := HJ.out
              rw [show m - k = (m - (k + 1)) + 1 by omega, Sk.sameN, if_pos heq] at this
              exact this
            clear heq HJ
            go_wp2_with fail
            go_quiet (fail)
            go_wp2
            go_roundw
            case rel => exact ⟨k + 1, _, by omega, by go_num, HJ2.out, rfl⟩
            case measure => simp [intOf]; omega
          · have hb : (((Sk.gt s.data.toList (p + k)).toNat : Int) == ((Sk.gt s.data.toList (p - d + k)).toNat : Int)) = false := by
              rw [beq_eq_false_iff_ne]
              intro h
              exact heq (UInt8.toNat_inj.1 (by omega))
            have HJ2 : k = g := by
              have := HJ.out
              rw [show m - k = (m - (k + 1)) + 1 by omega, Sk.sameN, if_neg heq] at this
              exact this
            subst HJ2
            clear heq HJ HG
            by_cases hnk : n < k
            all_goals
              go_wp2_with fail
              go_quiet (fail)
              go_wp2
              go_roundw
              case rel => first | exact ⟨d + 1, k, d, _, by omega, by omega, by omega, by omega, by go_num, by go_num, by go_num, HI1.out hnk, rfl⟩ | exact ⟨d + 1, n, far, _, by omega, by omega, by omega, by omega, by go_num, by go_num, by go_num, HI2.out hnk, rfl⟩
              case measure => simp [intOf]; omega
        · have HJ2 : k = g := by
            have := HJ.out
            rw [show m - k = 0 by omega, Sk.sameN] at this
            exact this
          subst HJ2
          clear HJ HG
          have hend : decide ((p : Int) + k < t) = false ∨ ((p : Int) + k < t ∧ decide ((k : Int) < 131) = false) := by
            simp only [decide_eq_false_iff_not]
            have := m3.out; omega
          rcases hend with hend | ⟨he1, he2⟩
          all_goals
            by_cases hnk : n < k
            all_goals
              go_wp2_with fail
              go_quiet (fail)
              go_wp2
              go_roundw
              case rel => first | exact ⟨d + 1, k, d, _, by omega, by omega, by omega, by omega, by go_num, by go_num, by go_num, HI1.out hnk, rfl⟩ | exact ⟨d + 1, n, far, _, by omega, by omega, by omega, by omega, by go_num, by go_num, by go_num, HI2.out hnk, rfl⟩
              case measure => simp [intOf]; omega
    · have HI2 : Hid ((n, far) = Sk.bestN s.data.toList p m f 1 0 0) := by
        have := HI.out
        rw [show f + 1 - d = 0 by omega, Sk.bestN] at this
        exact this
      clear HI
      have hend : (65535 : Int) < d ∨ ((d : Int) ≤ 65535 ∧ (p : Int) - d < r) := by have := f3.out; omega
      rcases hend with hend | ⟨he1, he2⟩
      all_goals
        go_wp2
        go_ret2
        exact ⟨ret_best HI2.out, _, rfl⟩

theorem refMatch_at (s : ByteArray) (R P T : Int) (r p t : Nat) (w : World) (hR : R = r) (hP : P = p) (hT : T = t) (hs : s.size ≤ 1000000) (hr : r ≤ p) (hp : p ≤ t) (ht : t ≤ s.size) :
    Calls Tryz.prog 60 #[.string s, .int .i64 R, .int .i64 P, .int .i64 T] w fun e w' =>
      e = .returned (.tuple #[.int .i64 (Sk.bestN s.data.toList p (min (t - p) 131) (min (p - r) 65535) 1 0 0).1, .int .i64 (Sk.bestN s.data.toList p (min (t - p) 131) (min (p - r) 65535) 1 0 0).2]) ∧ ∃ q, w' = w.drewN q := by
  subst hR hP hT
  exact refMatch_any s r p t w hs hr hp ht
end Go.Proofs.YtafkpmjifgohcaaGreatDoor

namespace Go.Proofs.YtafkpmjifgohcaaGreatDoor
open Go.RowKit

set_option maxHeartbeats 400000 in
theorem refSum_any (s : ByteArray) (w : World) (hs : s.size ≤ 1000000) :
    Calls Tryz.prog 37 #[.string s] w fun e w' => e = .returned (.int .i64 (Sk.sumOf s.data.toList)) ∧ w' = w := by
  go_enter Tryz.func37, Tryz.ntmps37
  go_wp2
  go_loop [3, 4, 5] (fun a b i => ∃ k x y : Nat, k ≤ s.size ∧ i = .int .i64 k ∧ a = .int .i64 x ∧ b = .int .i64 y ∧ x < 65521 ∧ y < 65521 ∧ Sk.sumN (s.data.toList.drop k) x y = Sk.sumN s.data.toList 1 0) (fun _ _ i => s.size - (intOf i).toNat)
  case atStart => exact ⟨0, 1, 0, by omega, rfl, rfl, rfl, by omega, by omega, rfl⟩
  case round =>
    obtain ⟨k, x, y, hk, rfl, rfl, rfl, hx, hy, hinv⟩ := hrel
    have HI : Hid (Sk.sumN (s.data.toList.drop k) x y = Sk.sumN s.data.toList 1 0) := hinv
    clear hinv
    by_cases hlt : k < s.size
    · have h1 := str_idx s k k rfl hlt
      have hb := UInt8.toNat_lt (Sk.gt s.data.toList k)
      have HI2 : Hid (Sk.sumN (s.data.toList.drop (k + 1)) ((x + (Sk.gt s.data.toList k).toNat) % 65521) ((y + (x + (Sk.gt s.data.toList k).toNat) % 65521) % 65521) = Sk.sumN s.data.toList 1 0) := by
        have := HI.out
        rw [Sk.drop_gt _ _ (by simpa using hlt), Sk.sumN] at this
        exact this
      clear HI
      generalize (Sk.gt s.data.toList k).toNat = c at *
      go_wp2
      go_round
      case rel => exact ⟨k + 1, _, _, by omega, by go_num, by go_num, by go_num, Nat.mod_lt _ (by decide), Nat.mod_lt _ (by decide), HI2.out⟩
      case measure => simp [intOf]; omega
    · have HI2 : Hid ((x, y) = Sk.sumN s.data.toList 1 0) := by
        have := HI.out
        rw [List.drop_of_length_le (by simp; omega), Sk.sumN] at this
        exact this
      go_wp2
      go_ret
      exact ⟨ret_int (by unfold Sk.sumOf; rw [← HI2.out]; omega), rfl⟩
end Go.Proofs.YtafkpmjifgohcaaGreatDoor

namespace Go.Proofs.YtafkpmjifgohcaaGreatDoor
open Go.RowKit

set_option maxHeartbeats 400000 in
theorem longest_any (s : ByteArray) (r p t : Nat) (w : World) (hs : s.size ≤ 1000000) (hr : r ≤ p) (hp : p ≤ t) (ht : t ≤ s.size) :
    Calls Tryz.prog 71 #[.string s, .int .i64 r, .int .i64 p, .int .i64 t] w fun e w' =>
      e = .returned (.tuple #[.int .i64 (Sk.bestN s.data.toList p (min (t - p) 131) (min (p - r) 65535) 1 0 0).2, .int .i64 (Sk.bestN s.data.toList p (min (t - p) 131) (min (p - r) 65535) 1 0 0).1]) ∧ ∃ q, w' = w.drewN q := by
  obtain ⟨m, hm⟩ : ∃ m, m = min (t - p) 131 := ⟨_, rfl⟩
  obtain ⟨f, hf⟩ : ∃ f, f = min (p - r) 65535 := ⟨_, rfl⟩
  have m1 : p + m ≤ t := by omega
  have m2 : m ≤ 131 := by omega
  have m3 : Hid (m = t - p ∨ m = 131) := by show _ ∨ _; omega
  have f1 : r + f ≤ p := by omega
  have f2 : f ≤ 65535 := by omega
  have f3 : Hid (f = p - r ∨ f = 65535) := by show _ ∨ _; omega
  have f4 : Hid (f = p - r ∨ p - r > 65535) := by show _ ∨ _; omega
  rw [← hm, ← hf]
  clear hm hf
  go_enter Tryz.func71, Tryz.ntmps71
  go_wp2
  all_goals
    first
      | rw [show (131 : Int) = (m : Int) from by have := m3.out; omega]
      | rw [show ((t : Int) - (p : Int)) = (m : Int) from by have := m3.out; omega]
    first
      | rw [show (65535 : Int) = (f : Int) from by have := f3.out; omega]
      | rw [show ((p : Int) - (r : Int)) = (f : Int) from by have := f3.out; omega]
    go_loopw [8, 9, 12] (fun b c i wr => ∃ d n far q : Nat, 1 ≤ d ∧ d ≤ f + 1 ∧ n ≤ m ∧ far < d ∧ i = .int .i64 d ∧ c = .int .i64 n ∧ b = .int .i64 far ∧ Sk.bestN s.data.toList p m (f + 1 - d) d n far = Sk.bestN s.data.toList p m f 1 0 0 ∧ wr = w.drewN q) (fun _ _ i _ => f + 1 - (intOf i).toNat)
    case atStart => exact ⟨1, 0, 0, 0, by omega, by omega, by omega, by omega, rfl, rfl, rfl, by rw [Nat.add_sub_cancel], rfl⟩
    case round =>
      obtain ⟨d, n, far, q, hd1, hd2, hn, hfar, rfl, rfl, rfl, hinv, rfl⟩ := hrel
      have HI : Hid (Sk.bestN s.data.toList p m (f + 1 - d) d n far = Sk.bestN s.data.toList p m f 1 0 0) := hinv
      clear hinv
      by_cases hlt : d ≤ f
      · by_cases hnm : n < m
        · have hle := (Sk.sameN_le s.data.toList (p - d) p m 0).2
          have HI1 : Hid (n < Sk.sameN s.data.toList (p - d) p m 0 → Sk.bestN s.data.toList p m (f + 1 - (d + 1)) (d + 1) (Sk.sameN s.data.toList (p - d) p m 0) d = Sk.bestN s.data.toList p m f 1 0 0) := fun h => by
            have := HI.out
            rw [show f + 1 - d = (f + 1 - (d + 1)) + 1 by omega, Sk.bestN, if_pos h] at this
            exact this
          have HI2 : Hid (¬ n < Sk.sameN s.data.toList (p - d) p m 0 → Sk.bestN s.data.toList p m (f + 1 - (d + 1)) (d + 1) n far = Sk.bestN s.data.toList p m f 1 0 0) := fun h => by
            have := HI.out
            rw [show f + 1 - d = (f + 1 - (d + 1)) + 1 by omega, Sk.bestN, if_neg h] at this
            exact this
          clear HI
          generalize hg : Sk.sameN s.data.toList (p - d) p m 0 = g at *
          have HG : Hid (Sk.sameN s.data.toList (p - d) p m 0 = g) := hg
          clear hg
          go_wp2_with (go_at_call 79; refine (same_at s _ _ _ (p - d) p m _ (by omega) rfl rfl hs (by omega) (by omega)).mono ?_; rw [HG.out]; rintro e w' ⟨rfl, q', rfl⟩)
          · have hgt : n < g := by assumption
            go_roundw
            case rel => exact ⟨d + 1, g, d, _, by omega, by omega, by omega, by omega, by go_num, by go_num, by go_num, HI1.out hgt, rfl⟩
            case measure => simp [intOf]; omega
          · have hgt : ¬ n < g := by assumption
            go_roundw
            case rel => exact ⟨d + 1, n, far, _, by omega, by omega, by omega, by omega, by go_num, by go_num, by go_num, HI2.out hgt, rfl⟩
            case measure => simp [intOf]; omega
        · have HI2 : Hid ((n, far) = Sk.bestN s.data.toList p m f 1 0 0) := by
            have := HI.out
            rw [Sk.bestN_full _ _ _ _ _ _ _ (by omega)] at this
            exact this
          clear HI
          go_wp2
          go_ret2
          exact ⟨ret_back HI2.out, _, rfl⟩
      · have HI2 : Hid ((n, far) = Sk.bestN s.data.toList p m f 1 0 0) := by
          have := HI.out
          rw [show f + 1 - d = 0 by omega, Sk.bestN] at this
          exact this
        clear HI
        go_wp2
        go_ret2
        exact ⟨ret_back HI2.out, _, rfl⟩

theorem longest_at (s : ByteArray) (R P T : Int) (r p t : Nat) (w : World) (hR : R = r) (hP : P = p) (hT : T = t) (hs : s.size ≤ 1000000) (hr : r ≤ p) (hp : p ≤ t) (ht : t ≤ s.size) :
    Calls Tryz.prog 71 #[.string s, .int .i64 R, .int .i64 P, .int .i64 T] w fun e w' =>
      e = .returned (.tuple #[.int .i64 (Sk.bestN s.data.toList p (min (t - p) 131) (min (p - r) 65535) 1 0 0).2, .int .i64 (Sk.bestN s.data.toList p (min (t - p) 131) (min (p - r) 65535) 1 0 0).1]) ∧ ∃ q, w' = w.drewN q := by
  subst hR hP hT
  exact longest_any s r p t w hs hr hp ht
end Go.Proofs.YtafkpmjifgohcaaGreatDoor

namespace Go.Proofs.YtafkpmjifgohcaaGreatDoor
open Go.RowKit

theorem fits_of_wf {n : Int} (h : (Lit.int .i64 n).wf = true) : Fits n := by
  have e1 : IntKind.i64.min = -9223372036854775808 := rfl
  have e2 : IntKind.i64.max = 9223372036854775807 := rfl
  simp [Lit.wf, e1, e2] at h
  exact h

end Go.Proofs.YtafkpmjifgohcaaGreatDoor
