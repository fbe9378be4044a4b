/- The small functions of the statements without the document's answer. -/
import Derived.Test.YtafkpmjifgohcaaDoorBackPart6
import Derived.Test.YtafkpmjifgohcaaDoorBackPart7
import Derived.Test.YtafkpmjifgohcaaDoorBackPart8
import Derived.Test.YtafkpmjifgohcaaDoorBackPart2
namespace Go.Proofs.YtafkpmjifgohcaaDoor
open Go.RowKit

theorem conv2 (w : World) (a b : Nat) (ha : a < 256) (hb : b < 256) (i j : Int) (hi : i = a) (hj : j = b) : (convert 53 9 (.slice (some ⟨w.heap.size, 0, none⟩) 2 2)).run Tryd.prog (w.alloc (.cells #[.int .u8 i, .int .u8 j] 5)) = .ok (.string ⟨[UInt8.ofNat a, UInt8.ofNat b].toArray⟩) (w.alloc (.cells #[.int .u8 i, .int .u8 j] 5)) := by
  subst hi hj
  exact run_convert_bytes_back (P := Tryd.prog) _ 53 9 5 ⟨w.heap.size, 0, none⟩ 2 [UInt8.ofNat a, UInt8.ofNat b] Tryd.underlying53 Tryd.underlying5 Tryd.underlying9 (fun j hj => by
    rw [add_plain, World.cell?_alloc_new]
    match j, hj with
    | 0, _ => simp [UInt8.toNat_ofNat_of_lt' (show a < UInt8.size from ha)]
    | 1, _ => simp [UInt8.toNat_ofNat_of_lt' (show b < UInt8.size from hb)])

theorem two_any (n : Nat) (w : World) (hn : n < 65536) :
    Calls Tryd.prog 44 #[.int .i64 n] w fun e w' => e = .returned (.string ⟨(Sk.le n 2).toArray⟩) ∧ Below w.heap.size w w' := by
  have hcv := conv2 w (n % 256) (n / 256) (by omega) (by omega) ((n : Int) % 256) ((n : Int) / 256) (by omega) (by omega)
  have HE : Hid ([UInt8.ofNat (n % 256), UInt8.ofNat (n / 256)] = Sk.le n 2) := by
    show _ = _
    rw [Sk.le, Sk.le, Sk.le, Nat.mod_eq_of_lt (show n / 256 < 256 by omega)]
  have h1 : (n : Int) % 256 < 256 := by omega
  have h2 : (0 : Int) ≤ (n : Int) % 256 := by omega
  have h3 : (n : Int) / 256 < 256 := by omega
  have h4 : (0 : Int) ≤ (n : Int) / 256 := by omega
  go_enter Tryd.func44, Tryd.ntmps44
  go_wp2
  go_ret
  exact ⟨ret_str HE.out, (Below.refl _ _).alloc (Nat.le_refl _) _⟩

theorem short_any (s : ByteArray) (n : Nat) (w : World) (hn : n ≤ 1000000) :
    Calls Tryd.prog 14 #[.string s, .int .i64 n] w fun e w' => ∃ t : ByteArray, t.size ≤ n ∧ e = .returned (.string t) ∧ w' = w := by
  by_cases h : n < s.size
  · have hi : (n : Int) < (s.size : Int) := by omega
    have hi2 : (n : Int) ≤ (s.size : Int) := by omega
    go_enter Tryd.func14, Tryd.ntmps14
    go_wp2
    go_ret
    exact ⟨_, by rw [ByteArray.size_extract]; omega, rfl, rfl⟩
  · have hi : (s.size : Int) ≤ (n : Int) := by omega
    go_enter Tryd.func14, Tryd.ntmps14
    go_wp2
    go_ret
    exact ⟨s, by omega, rfl, rfl⟩

set_option maxHeartbeats 400000 in
theorem pickK_any (c : Int) (n : Nat) (w : World) (hc : Fits c) (hn : 0 < n) (hn2 : n ≤ 1000000000000000) :
    Calls Tryd.prog 15 #[.int .i64 c, .int .i64 n] w fun e w' => ∃ k : Nat, k < n ∧ e = .returned (.int .i64 k) ∧ w' = w := by
  by_cases h0 : 0 ≤ c
  · have HF : Hid (∃ k : Nat, k < n ∧ (k : Int) = c % (n : Int)) := by
      refine ⟨(c % (n : Int)).toNat, ?_, ?_⟩
      · have := Int.emod_lt_of_pos c (show (0 : Int) < n by omega); have := Int.emod_nonneg c (show (n : Int) ≠ 0 by omega); omega
      · have := Int.emod_nonneg c (show (n : Int) ≠ 0 by omega); omega
    have hnb : ((n : Int) == 0) = false := by rw [beq_eq_false_iff_ne]; omega
    clear hc
    go_enter Tryd.func15, Tryd.ntmps15
    go_wp2
    go_ret
    obtain ⟨k, hk, e⟩ := HF.out
    exact ⟨k, hk, ret_int (by rw [e]), rfl⟩
  · have h1 : Fits (c + 1) := ⟨by have := hc.1; omega, by omega⟩
    have h2 : Fits (-(c + 1)) := ⟨by omega, by have := hc.1; omega⟩
    have w1 := wrap_fits _ h1
    have w2 := wrap_fits _ h2
    obtain ⟨y, hy⟩ : ∃ y : Nat, (y : Int) = -(c + 1) := ⟨(-(c + 1)).toNat, by omega⟩
    have hneg : c < 0 := by omega
    clear hc h1 h2 h0
    go_enter Tryd.func15, Tryd.ntmps15
    go_wp2
    go_ret
    refine ⟨y % n, Nat.mod_lt _ hn, ret_int ?_, rfl⟩
    rw [← Int.neg_tmod, ← hy]
    exact Int.ofNat_tmod y n

/-- What Pack and Open make of short data: a file of its own. -/
theorem fileK_any (s : ByteArray) (block every : Nat) (A : Nat → Addr) (w : World) (hA : Errs w A) (hs : s.size ≤ 5000) (hb1 : 1 ≤ block) (hb2 : block ≤ 1024) (he1 : 1 ≤ every) (he2 : every ≤ 100) :
    Calls Tryd.prog 16 #[.string s, .int .i64 block, .int .i64 every] w fun e w' => Below w.heap.size w w' ∧ ∃ g v, e = .returned (.tuple #[.pointer (some ⟨g, 0, none⟩), .string ⟨(Sk.fileOf s.data.toList block every).toArray⟩]) ∧
      PFile w' w.heap.size g ⟨(Sk.fileOf s.data.toList block every).toArray⟩ v (Sk.fblk s.data.toList block every s.size 0 0 3) s.size := by
  have hlen : s.data.toList.length = s.size := Array.length_toList
  have hfl := Sk.fileOf_length s.data.toList block every hb1
  rw [hlen] at hfl
  have hpo : packOut s.data.toList block every = some (Sk.fileOf s.data.toList block every) := by
    unfold packOut
    rw [if_pos (by rw [hlen]; omega)]
    simp only [Int.toNat_natCast]
    rw [if_pos (by omega)]
  obtain ⟨F, hF⟩ : ∃ F, F = Sk.fileOf s.data.toList block every := ⟨_, rfl⟩
  have hop := Sk.openR_file s.data.toList block every hb1 hb2 (by omega) (by omega)
  rw [← hF] at hpo hop hfl ⊢
  rw [hlen] at hop
  have HPO : Hid (packOut s.data.toList block every = some F) := hpo
  have HOP : Hid (Sk.openR (⟨F.toArray⟩ : ByteArray).data.toList = (0, Sk.fblk s.data.toList block every s.size 0 0 3, s.size)) := by
    show Sk.openR F.toArray.toList = _
    rw [List.toList_toArray]; exact hop
  have HA : Hid (Errs w A) := hA
  have HFL : Hid ((⟨F.toArray⟩ : ByteArray).size ≤ 65536) := by show F.toArray.size ≤ 65536; simp; omega
  clear hA hpo hop hF hlen hfl
  go_enter Tryd.func16, Tryd.ntmps16
  go_wp2_with fail
  refine (pack_any s block every (A 0) w (HA.out 0 (by decide))).mono ?_
  rw [HPO.out]
  rintro e w1 ⟨hb, rfl⟩
  have HB1 : Hid (Below w.heap.size w w1) := hb
  clear hb
  go_wp2_with fail
  refine (open_any ⟨F.toArray⟩ A w1 (HA.out.below' HB1.out) (by have := HFL.out; omega)).mono ?_
  rw [HOP.out]
  rintro e w2 ⟨hb2, _, r0, _⟩
  obtain ⟨g, v, rfl, hpf⟩ := r0 rfl
  have HB2 : Hid (Below w.heap.size w w2) := HB1.out.trans (hb2.mono HB1.out.size)
  have HPF : Hid (PFile w2 w.heap.size g ⟨F.toArray⟩ v (Sk.fblk s.data.toList block every s.size 0 0 3) s.size) := ⟨hpf.blk, Nat.le_trans HB1.out.size hpf.low, hpf.row, fun k hk => ⟨Nat.le_trans HB1.out.size (hpf.rowLow k hk).1, (hpf.rowLow k hk).2⟩⟩
  clear hb2 r0 hpf
  go_wp2_with fail
  refine (size_any w2 w.heap.size g _ v _ s.size HPF.out).mono ?_
  rintro e w3 ⟨rfl, hw3⟩
  rw [hw3]
  clear hw3 w3
  go_wp2
  go_ret2
  exact ⟨HB2.out, g, v, rfl, HPF.out⟩
end Go.Proofs.YtafkpmjifgohcaaDoor
