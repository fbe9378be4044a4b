/- The small functions of the statements without the document's answer.
A file of two blocks that are put together (pure). -/
import Derived.Test.YtafkpmjifgohcaaDoorLocalPart10
import Derived.Test.YtafkpmjifgohcaaDoorLocalPart11
import Derived.Test.YtafkpmjifgohcaaDoorLocalPart6
import Derived.Test.YtafkpmjifgohcaaDoorLocalPart8
namespace Go.Proofs.YtafkpmjifgohcaaDoor
open Go.RowKit

theorem conv2 (w : World) (a b : Nat) (ha : a < 256) (hb : b < 256) (i j : Int) (hi : i = a) (hj : j = b) : (convert 53 9 (.slice (some ⟨w.heap.size, 0, none⟩) 2 2)).run Tryd.prog (w.alloc (.cells #[.int .u8 i, .int .u8 j] 5)) = .ok (.string ⟨[UInt8.ofNat a, UInt8.ofNat b].toArray⟩) (w.alloc (.cells #[.int .u8 i, .int .u8 j] 5)) := by
  subst hi hj
  exact run_convert_bytes_back (P := Tryd.prog) _ 53 9 5 ⟨w.heap.size, 0, none⟩ 2 [UInt8.ofNat a, UInt8.ofNat b] Tryd.underlying53 Tryd.underlying5 Tryd.underlying9 (fun j hj => by
    rw [add_plain, World.cell?_alloc_new]
    match j, hj with
    | 0, _ => simp [UInt8.toNat_ofNat_of_lt' (show a < UInt8.size from ha)]
    | 1, _ => simp [UInt8.toNat_ofNat_of_lt' (show b < UInt8.size from hb)])

theorem two_any (n : Nat) (w : World) (hn : n < 65536) :
    Calls Tryd.prog 44 #[.int .i64 n] w fun e w' => e = .returned (.string ⟨(Sk.le n 2).toArray⟩) ∧ Below w.heap.size w w' := by
  have hcv := conv2 w (n % 256) (n / 256) (by omega) (by omega) ((n : Int) % 256) ((n : Int) / 256) (by omega) (by omega)
  have HE : Hid ([UInt8.ofNat (n % 256), UInt8.ofNat (n / 256)] = Sk.le n 2) := by
    show _ = _
    rw [Sk.le, Sk.le, Sk.le, Nat.mod_eq_of_lt (show n / 256 < 256 by omega)]
  have h1 : (n : Int) % 256 < 256 := by omega
  have h2 : (0 : Int) ≤ (n : Int) % 256 := by omega
  have h3 : (n : Int) / 256 < 256 := by omega
  have h4 : (0 : Int) ≤ (n : Int) / 256 := by omega
  go_enter Tryd.func44, Tryd.ntmps44
  go_wp2
  go_ret
  exact ⟨ret_str HE.out, (Below.refl _ _).alloc (Nat.le_refl _) _⟩

theorem short_any (s : ByteArray) (n : Nat) (w : World) (hn : n ≤ 1000000) :
    Calls Tryd.prog 14 #[.string s, .int .i64 n] w fun e w' => ∃ t : ByteArray, t.size ≤ n ∧ e = .returned (.string t) ∧ w' = w := by
  by_cases h : n < s.size
  · have hi : (n : Int) < (s.size : Int) := by omega
    have hi2 : (n : Int) ≤ (s.size : Int) := by omega
    go_enter Tryd.func14, Tryd.ntmps14
    go_wp2
    go_ret
    exact ⟨_, by rw [ByteArray.size_extract]; omega, rfl, rfl⟩
  · have hi : (s.size : Int) ≤ (n : Int) := by omega
    go_enter Tryd.func14, Tryd.ntmps14
    go_wp2
    go_ret
    exact ⟨s, by omega, rfl, rfl⟩

set_option maxHeartbeats 400000 in
theorem pickK_any (c : Int) (n : Nat) (w : World) (hc : Fits c) (hn : 0 < n) (hn2 : n ≤ 1000000000000000) :
    Calls Tryd.prog 15 #[.int .i64 c, .int .i64 n] w fun e w' => ∃ k : Nat, k < n ∧ e = .returned (.int .i64 k) ∧ w' = w := by
  by_cases h0 : 0 ≤ c
  · have HF : Hid (∃ k : Nat, k < n ∧ (k : Int) = c % (n : Int)) := by
      refine ⟨(c % (n : Int)).toNat, ?_, ?_⟩
      · have := Int.emod_lt_of_pos c (show (0 : Int) < n by omega); have := Int.emod_nonneg c (show (n : Int) ≠ 0 by omega); omega
      · have := Int.emod_nonneg c (show (n : Int) ≠ 0 by omega); omega
    have hnb : ((n : Int) == 0) = false := by rw [beq_eq_false_iff_ne]; omega
    clear hc
    go_enter Tryd.func15, Tryd.ntmps15
    go_wp2
    go_ret
    obtain ⟨k, hk, e⟩ := HF.out
    exact ⟨k, hk, ret_int (by rw [e]), rfl⟩
  · have h1 : Fits (c + 1) := ⟨by have := hc.1; omega, by omega⟩
    have h2 : Fits (-(c + 1)) := ⟨by omega, by have := hc.1; omega⟩
    have w1 := wrap_fits _ h1
    have w2 := wrap_fits _ h2
    obtain ⟨y, hy⟩ : ∃ y : Nat, (y : Int) = -(c + 1) := ⟨(-(c + 1)).toNat, by omega⟩
    have hneg : c < 0 := by omega
    clear hc h1 h2 h0
    go_enter Tryd.func15, Tryd.ntmps15
    go_wp2
    go_ret
    refine ⟨y % n, Nat.mod_lt _ hn, ret_int ?_, rfl⟩
    rw [← Int.neg_tmod, ← hy]
    exact Int.ofNat_tmod y n

/-- What Pack and Open make of short data: a file of its own. -/
theorem fileK_any (s : ByteArray) (block every : Nat) (A : Nat → Addr) (w : World) (hA : Errs w A) (hs : s.size ≤ 5000) (hb1 : 1 ≤ block) (hb2 : block ≤ 1024) (he1 : 1 ≤ every) (he2 : every ≤ 100) :
    Calls Tryd.prog 16 #[.string s, .int .i64 block, .int .i64 every] w fun e w' => Below w.heap.size w w' ∧ ∃ g v, e = .returned (.tuple #[.pointer (some ⟨g, 0, none⟩), .string ⟨(Sk.fileOf s.data.toList block every).toArray⟩]) ∧
      PFile w' w.heap.size g ⟨(Sk.fileOf s.data.toList block every).toArray⟩ v (Sk.fblk s.data.toList block every s.size 0 0 3) s.size := by
  have hlen : s.data.toList.length = s.size := Array.length_toList
  have hfl := Sk.fileOf_length s.data.toList block every hb1
  rw [hlen] at hfl
  have hpo : packOut s.data.toList block every = some (Sk.fileOf s.data.toList block every) := by
    unfold packOut
    rw [if_pos (by rw [hlen]; omega)]
    simp only [Int.toNat_natCast]
    rw [if_pos (by omega)]
  obtain ⟨F, hF⟩ : ∃ F, F = Sk.fileOf s.data.toList block every := ⟨_, rfl⟩
  have hop := Sk.openR_file s.data.toList block every hb1 hb2 (by omega) (by omega)
  rw [← hF] at hpo hop hfl ⊢
  rw [hlen] at hop
  have HPO : Hid (packOut s.data.toList block every = some F) := hpo
  have HOP : Hid (Sk.openR (⟨F.toArray⟩ : ByteArray).data.toList = (0, Sk.fblk s.data.toList block every s.size 0 0 3, s.size)) := by
    show Sk.openR F.toArray.toList = _
    rw [List.toList_toArray]; exact hop
  have HA : Hid (Errs w A) := hA
  have HFL : Hid ((⟨F.toArray⟩ : ByteArray).size ≤ 65536) := by show F.toArray.size ≤ 65536; simp; omega
  clear hA hpo hop hF hlen hfl
  go_enter Tryd.func16, Tryd.ntmps16
  go_wp2_with fail
  refine (pack_any s block every (A 0) w (HA.out 0 (by decide))).mono ?_
  rw [HPO.out]
  rintro e w1 ⟨hb, rfl⟩
  have HB1 : Hid (Below w.heap.size w w1) := hb
  clear hb
  go_wp2_with fail
  refine (open_any ⟨F.toArray⟩ A w1 (HA.out.below' HB1.out) (by have := HFL.out; omega)).mono ?_
  rw [HOP.out]
  rintro e w2 ⟨hb2, _, r0, _⟩
  obtain ⟨g, v, rfl, hpf⟩ := r0 rfl
  have HB2 : Hid (Below w.heap.size w w2) := HB1.out.trans (hb2.mono HB1.out.size)
  have HPF : Hid (PFile w2 w.heap.size g ⟨F.toArray⟩ v (Sk.fblk s.data.toList block every s.size 0 0 3) s.size) := ⟨hpf.blk, Nat.le_trans HB1.out.size hpf.low, hpf.row, fun k hk => ⟨Nat.le_trans HB1.out.size (hpf.rowLow k hk).1, (hpf.rowLow k hk).2⟩⟩
  clear hb2 r0 hpf
  go_wp2_with fail
  refine (size_any w2 w.heap.size g _ v _ s.size HPF.out).mono ?_
  rintro e w3 ⟨rfl, hw3⟩
  rw [hw3]
  clear hw3 w3
  go_wp2
  go_ret2
  exact ⟨HB2.out, g, v, rfl, HPF.out⟩
end Go.Proofs.YtafkpmjifgohcaaDoor

namespace Go.Proofs.YtafkpmjifgohcaaDoor

/-- What comes of the tokens of block k. -/
def Sk.got (k : Nat) : Option (List UInt8) → Sk.Got
  | none => .bad 7 k
  | some o => .good o

/-- A block: its header, and the packed bytes. -/
def Sk.blkB (f : Bool) (n : Nat) (P : List UInt8) : List UInt8 := Sk.hdr f n P.length (Sk.sumOf P) ++ P
theorem Sk.blkB_length (f : Bool) (n : Nat) (P : List UInt8) : (Sk.blkB f n P).length = 9 + P.length := by rw [Sk.blkB, List.length_append, Sk.hdr_length]

/-- Open goes by one block. -/
theorem Sk.open_one (F out rest P : List UInt8) (fr : Bool) (n d g : Nat) (bs : List Sk.Blk) (hF : F = out ++ (Sk.blkB fr n P ++ rest)) (h1 : 1 ≤ n) (h2 : n ≤ 1024) (hP : P.length < 65536) (hd : d + n ≤ 20000) (h0 : bs = [] → fr = true) :
    Sk.openN F (g + 1) out.length bs d = Sk.openN F g (out.length + 9 + P.length) (bs ++ [⟨d, n, out.length, fr⟩]) (d + n) := by
  have hFe : F = out ++ (Sk.hdr fr n P.length (Sk.sumOf P) ++ (P ++ rest)) := by rw [hF, Sk.blkB]; simp only [List.append_assoc]
  obtain ⟨q0, q1, q2, _⟩ := Sk.hdr_parts out (P ++ rest) fr n P.length (Sk.sumOf P) (by omega) hP (Sk.sum_lt P)
  rw [← hFe] at q0 q1 q2
  have hFl : out.length + 9 + P.length ≤ F.length := by
    rw [hFe]
    simp only [List.length_append, Sk.hdr_length]
    omega
  have hfr : ((Sk.gt F out.length).toNat == 1) = fr := by
    rw [q0]; cases fr <;> rfl
  have hbad : Sk.badHdr F out.length bs d = false := by
    unfold Sk.badHdr
    rw [q1, hfr, q0]
    have e1 : ¬ (1 < (if fr = true then 1 else 0)) := by split <;> omega
    have e2 : (bs.isEmpty && !fr) = false := by
      by_cases h : bs = []
      · rw [h0 h]; simp
      · have : bs.isEmpty = false := by simpa using h
        rw [this]; rfl
    rw [e2]
    simp only [Bool.or_false, Bool.or_eq_false_iff, decide_eq_false_iff_not]
    exact ⟨⟨⟨e1, by omega⟩, by omega⟩, by omega⟩
  rw [Sk.openN, if_pos (by omega), if_neg (by omega), hbad, if_neg (by decide), q2, if_neg (by omega), q1, hfr]

/-- What a block's packed bytes and sum are, in a longer text. -/
theorem Sk.blk_parts (F out rest P : List UInt8) (fr : Bool) (n d : Nat) (hF : F = out ++ (Sk.blkB fr n P ++ rest)) (hn : n < 65536) (hP : P.length < 65536) :
    Sk.packedOf F ⟨d, n, out.length, fr⟩ = P ∧ Sk.numAt F (out.length + 5) 4 = Sk.sumOf P := by
  have hFe : F = out ++ (Sk.hdr fr n P.length (Sk.sumOf P) ++ (P ++ rest)) := by rw [hF, Sk.blkB]; simp only [List.append_assoc]
  obtain ⟨_, _, q2, q3⟩ := Sk.hdr_parts out (P ++ rest) fr n P.length (Sk.sumOf P) hn hP (Sk.sum_lt P)
  rw [← hFe] at q2 q3
  refine ⟨?_, q3⟩
  show Sk.sub F (out.length + 9) (out.length + 9 + Sk.numAt F (out.length + 3) 2) = P
  rw [q2]
  have := Sk.sub_mid (out ++ Sk.hdr fr n P.length (Sk.sumOf P)) P rest 0 P.length (Nat.le_refl _)
  rw [List.length_append, Sk.hdr_length, Nat.add_zero, List.append_assoc, ← hFe] at this
  rw [this]
  unfold Sk.sub
  simp

theorem Sk.atB_blk (F out rest P : List UInt8) (fr : Bool) (n d k : Nat) (o : List UInt8) (hF : F = out ++ (Sk.blkB fr n P ++ rest)) (hn : n < 65536) (hP : P.length < 65536) :
    Sk.atB F ⟨d, n, out.length, fr⟩ k o = Sk.got k (Sk.unp P n o) := by
  obtain ⟨h1, h2⟩ := Sk.blk_parts F out rest P fr n d hF hn hP
  unfold Sk.atB
  rw [h1]
  dsimp only
  rw [h2, if_pos rfl]
  cases Sk.unp P n o <;> rfl

/-- The file, and its blocks. -/
def Sk.twoF (n1 : Nat) (P1 : List UInt8) (fr : Bool) (n2 : Nat) (P2 : List UInt8) : List UInt8 := [83, 75, 49] ++ (Sk.blkB true n1 P1 ++ Sk.blkB fr n2 P2)
def Sk.twoB (n1 : Nat) (P1 : List UInt8) (fr : Bool) (n2 : Nat) : List Sk.Blk := [⟨0, n1, 3, true⟩, ⟨n1, n2, 12 + P1.length, fr⟩]

section
variable {n1 n2 : Nat} {P1 P2 : List UInt8} {fr : Bool}
theorem Sk.twoF_length : (Sk.twoF n1 P1 fr n2 P2).length = 21 + P1.length + P2.length := by
  unfold Sk.twoF
  simp only [List.length_append, Sk.blkB_length, List.length_cons, List.length_nil]
  omega
theorem Sk.two_fst : Sk.twoF n1 P1 fr n2 P2 = [83, 75, 49] ++ (Sk.blkB true n1 P1 ++ Sk.blkB fr n2 P2) := rfl
theorem Sk.two_snd : Sk.twoF n1 P1 fr n2 P2 = ([83, 75, 49] ++ Sk.blkB true n1 P1) ++ (Sk.blkB fr n2 P2 ++ []) := by
  unfold Sk.twoF
  rw [List.append_nil, List.append_assoc]
theorem Sk.two_len : ([83, 75, 49] ++ Sk.blkB true n1 P1).length = 12 + P1.length := by
  rw [List.length_append, Sk.blkB_length]; simp; omega

theorem Sk.openR_two (h1 : 1 ≤ n1) (h2 : n1 ≤ 1024) (h3 : 1 ≤ n2) (h4 : n2 ≤ 1024) (hP1 : P1.length ≤ 30000) (hP2 : P2.length ≤ 30000) : Sk.openR (Sk.twoF n1 P1 fr n2 P2) = (0, Sk.twoB n1 P1 fr n2, n1 + n2) := by
  have hl := Sk.twoF_length (n1 := n1) (n2 := n2) (P1 := P1) (P2 := P2) (fr := fr)
  have ht : (Sk.twoF n1 P1 fr n2 P2).take 3 = [83, 75, 49] := rfl
  unfold Sk.openR
  rw [if_neg (by omega), if_neg (by rw [ht]; intro h; rcases h with h | h; omega; exact h rfl)]
  obtain ⟨g, hg⟩ : ∃ g, (Sk.twoF n1 P1 fr n2 P2).length = g + 1 + 1 := ⟨(Sk.twoF n1 P1 fr n2 P2).length - 2, by omega⟩
  rw [hg]
  have e1 := Sk.open_one (Sk.twoF n1 P1 fr n2 P2) [83, 75, 49] _ P1 true n1 0 (g + 1) [] Sk.two_fst h1 h2 (by omega) (by omega) (fun _ => rfl)
  have e2 := Sk.open_one (Sk.twoF n1 P1 fr n2 P2) ([83, 75, 49] ++ Sk.blkB true n1 P1) [] P2 fr n2 n1 g [⟨0, n1, 3, true⟩] Sk.two_snd h3 h4 (by omega) (by omega) (fun h => by cases h)
  rw [Sk.two_len] at e2
  rw [show ([83, 75, 49] : List UInt8).length = 3 from rfl, Nat.zero_add, List.nil_append] at e1
  rw [e1, show 3 + 9 + P1.length = 12 + P1.length by omega, e2, Sk.openN_end _ _ _ _ _ (by omega)]
  rfl

theorem Sk.upto_two0 (h2 : n1 ≤ 1024) (hP1 : P1.length ≤ 30000) : Sk.upto (Sk.twoF n1 P1 fr n2 P2) (Sk.twoB n1 P1 fr n2) 0 = Sk.got 0 (Sk.unp P1 n1 []) := by
  rw [Sk.upto]
  exact Sk.atB_blk _ [83, 75, 49] _ P1 true n1 0 0 [] Sk.two_fst (by omega) (by omega)

theorem Sk.upto_two1 (h2 : n1 ≤ 1024) (h4 : n2 ≤ 1024) (hP1 : P1.length ≤ 30000) (hP2 : P2.length ≤ 30000) {o : List UInt8} (ho : Sk.unp P1 n1 [] = some o) : Sk.upto (Sk.twoF n1 P1 fr n2 P2) (Sk.twoB n1 P1 fr n2) 1 = Sk.got 1 (Sk.unp P2 n2 (if fr then [] else o)) := by
  have h0 := Sk.upto_two0 (n1 := n1) (n2 := n2) (P1 := P1) (P2 := P2) (fr := fr) h2 hP1
  rw [ho] at h0
  have hat := fun o => Sk.atB_blk (Sk.twoF n1 P1 fr n2 P2) ([83, 75, 49] ++ Sk.blkB true n1 P1) [] P2 fr n2 n1 1 o Sk.two_snd (by omega) (by omega)
  rw [Sk.two_len] at hat
  cases fr with
  | true =>
    rw [Sk.upto_fresh _ _ _ rfl]
    exact hat []
  | false =>
    rw [Sk.upto_step _ _ 0 rfl o h0]
    exact hat o
end
end Go.Proofs.YtafkpmjifgohcaaDoor
