/- tokens.appendRuns writes plain bytes as runs. -/
import Derived.Test.YtafkpmjifgohcaaDoorTokApp
namespace Go.Proofs.YtafkpmjifgohcaaDoor
open Go.RowKit

theorem src_str' (w : World) (t : ByteArray) (M : List UInt8) (h : t.data.toList = M) : Src Tryd.prog 1 9 (.string t) M.length (M.map cellOf) w := by
  subst h
  exact Src.ofString (P := Tryd.prog) w (tx := 9) Tryd.underlying9 t

def strLen : Value → Nat
  | .string t => t.size
  | _ => 0

theorem size_cells (n : Nat) (h0 : 0 < n) (h : n ≤ 128) : (#[Value.int .u8 ((n : Int) - 1)] : Array Value).toList = [UInt8.ofNat (n - 1)].map cellOf := by
  simp only [List.map_cons, List.map_nil]
  rw [cellOf_ofNat (n - 1) _ (by omega) (by omega)]

theorem full_cells : (#[Value.int .u8 127] : Array Value).toList = [UInt8.ofNat 127].map cellOf := by
  simp only [List.map_cons, List.map_nil]
  rw [cellOf_ofNat 127 127 rfl (by decide)]

theorem ne_nil {R : List UInt8} (h : 0 < R.length) : R ≠ [] := List.length_pos_iff.1 h

theorem ext_take (t : ByteArray) (R : List UInt8) (n : Nat) (h : t.data.toList = R) : (t.extract 0 n).data.toList = R.take n := by
  subst h
  simp [ByteArray.data_extract]
theorem ext_drop (t : ByteArray) (R : List UInt8) (n : Nat) (h : t.data.toList = R) : (t.extract n t.size).data.toList = R.drop n := by
  subst h
  rw [ByteArray.data_extract, Array.toList_extract, List.extract_eq_take_drop, List.take_of_length_le]
  rw [List.length_drop, Array.length_toList]
  exact Nat.le_refl _

set_option maxHeartbeats 400000 in
theorem appendRuns_any (v : Value) (L : List UInt8) (s : ByteArray) (P : List UInt8) (w : World) (hP : s.data.toList = P) (hb : Bts w v L) (hL : L.length + 2 * P.length ≤ 900000) :
    Calls Tryd.prog 85 #[v, .string s] w fun e w' => ∃ v', e = .returned v' ∧ Bts w' v' (L ++ Sk.runsOf P) ∧ Gr w v w' v' := by
  have HP : Hid (s.data.toList = P) := hP
  clear hP
  go_enter Tryd.func85, Tryd.ntmps85
  go_wp2_with fail
  go_loopw [0, 1] (fun u p wr => ∃ (t : ByteArray) (M R : List UInt8), t.data.toList = R ∧ p = .string t ∧ Bts wr u (L ++ M) ∧ Gr w v wr u ∧ M ++ Sk.runsOf R = Sk.runsOf P ∧ M.length + 2 * R.length ≤ 2 * P.length) (fun _ p _ => strLen p)
  case atStart => exact ⟨s, [], P, HP.out, rfl, by simpa using hb, Gr.refl _ _, rfl, by simp⟩
  case round =>
    obtain ⟨t, M, R, hR, rfl, hbt, hgr, hinv, hlen⟩ := hrel
    have HI : Hid (M ++ Sk.runsOf R = Sk.runsOf P) := hinv
    have HR : Hid (t.data.toList = R) := hR
    have HZ : Hid (t.size = R.length) := by rw [← hR]; exact (Array.length_toList).symm
    have HB : Hid (Bts wr u0 (L ++ M)) := hbt
    have HG : Hid (Gr w v wr u0) := hgr
    clear hinv hR hb hbt hgr
    have hz : t.size ≤ 1000000 := by have := HZ.out; omega
    by_cases h0 : 0 < t.size
    · by_cases h128 : t.size ≤ 128
      · have HS : Hid _ := src_new wr _ 1 [UInt8.ofNat (t.size - 1)] rfl (size_cells t.size h0 h128)
        have HI2 : Hid ((M ++ [UInt8.ofNat (t.size - 1)] ++ R) ++ Sk.runsOf [] = Sk.runsOf P) := by
          show _ = _
          have := HI.out
          rw [Sk.runsOf_step R (ne_nil (by have := HZ.out; omega)), List.take_of_length_le (by have := HZ.out; omega), List.drop_of_length_le (by have := HZ.out; omega), show min R.length 128 - 1 = t.size - 1 by have := HZ.out; omega] at this
          simpa using this
        clear HI
        go_wp2_with (first | (at_builtin; refine wpList_append_bts rfl (.tmp 12) (.tmp 16) 53 rfl u0 (.slice (some ⟨wr.heap.size, 0, none⟩) 1 1) (L ++ M) [UInt8.ofNat (t.size - 1)] rfl rfl (HB.out.below ((Below.refl _ _).alloc (Nat.le_refl _) _)) HS.out (by simp) (by simp; omega) ?_; intro v1 w1 hb1 hg1; have HB1 : Hid (Bts w1 v1 (L ++ M ++ [UInt8.ofNat (t.size - 1)])) := hb1; have HG1 : Hid (Gr _ u0 w1 v1) := hg1; clear hb1 hg1) | (at_builtin; refine wpList_append_bts rfl (.tmp 18) (.tmp 21) 9 rfl _ (.string t) _ R rfl rfl HB1.out (src_str' _ t R HR.out) (by have := HZ.out; omega) (by have := HZ.out; simp; omega) ?_; intro v2 w2 hb2 hg2; have HB2 : Hid (Bts w2 v2 (L ++ M ++ [UInt8.ofNat (t.size - 1)] ++ R)) := hb2; have HG2 : Hid (Gr w1 v1 w2 v2) := hg2; clear hb2 hg2))
        go_roundw
        case rel =>
          refine ⟨_, M ++ [UInt8.ofNat (t.size - 1)] ++ R, [], ?_, rfl, ?_, (HG.out.trans (HG1.out.after ((Below.refl _ _).alloc (Nat.le_refl _) _))).trans HG2.out, HI2.out, ?_⟩
          · simp
          · have := HB2.out
            rw [List.append_assoc, List.append_assoc] at this
            rw [List.append_assoc]
            exact this
          · have := HZ.out
            simp
            omega
        case measure => simp [strLen]; omega
      · have HS : Hid _ := src_new wr _ 1 [UInt8.ofNat 127] rfl full_cells
        have HI2 : Hid ((M ++ [UInt8.ofNat 127] ++ R.take 128) ++ Sk.runsOf (R.drop 128) = Sk.runsOf P) := by
          show _ = _
          have := HI.out
          rw [Sk.runsOf_step R (ne_nil (by have := HZ.out; omega)), show min R.length 128 - 1 = 127 by have := HZ.out; omega] at this
          simpa using this
        clear HI
        have hgt : (128 : Int) < t.size := by omega
        have HT : Hid ((R.take 128).length = 128) := by show _ = _; have := HZ.out; rw [List.length_take]; omega
        go_wp2_with (first | (at_builtin; refine wpList_append_bts rfl (.tmp 12) (.tmp 16) 53 rfl u0 (.slice (some ⟨wr.heap.size, 0, none⟩) 1 1) (L ++ M) [UInt8.ofNat 127] rfl rfl (HB.out.below ((Below.refl _ _).alloc (Nat.le_refl _) _)) HS.out (by simp) (by simp; omega) ?_; intro v1 w1 hb1 hg1; have HB1 : Hid (Bts w1 v1 (L ++ M ++ [UInt8.ofNat 127])) := hb1; have HG1 : Hid (Gr _ u0 w1 v1) := hg1; clear hb1 hg1) | (at_builtin; refine wpList_append_bts rfl (.tmp 18) (.tmp 21) 9 rfl _ (.string (t.extract 0 128)) _ (R.take 128) rfl rfl HB1.out (src_str' _ _ _ (ext_take t R 128 HR.out)) (by rw [HT.out]; decide) (by have := HZ.out; rw [HT.out]; simp; omega) ?_; intro v2 w2 hb2 hg2; have HB2 : Hid (Bts w2 v2 (L ++ M ++ [UInt8.ofNat 127] ++ R.take 128)) := hb2; have HG2 : Hid (Gr w1 v1 w2 v2) := hg2; clear hb2 hg2))
        go_roundw
        case rel =>
          refine ⟨_, M ++ [UInt8.ofNat 127] ++ R.take 128, R.drop 128, ?_, rfl, ?_, (HG.out.trans (HG1.out.after ((Below.refl _ _).alloc (Nat.le_refl _) _))).trans HG2.out, HI2.out, ?_⟩
          · exact ext_drop t R 128 HR.out
          · have := HB2.out
            rw [List.append_assoc, List.append_assoc] at this
            rw [List.append_assoc]
            exact this
          · have := HZ.out
            simp
            omega
        case measure => simp [strLen]; omega
    · have HI2 : Hid (M = Sk.runsOf P) := by
        have := HI.out
        rw [show R = [] from List.length_eq_zero_iff.1 (by have := HZ.out; omega), Sk.runsOf_nil, List.append_nil] at this
        exact this
      go_wp2
      go_ret
      exact ⟨_, rfl, by rw [← HI2.out]; exact HB.out, HG.out⟩
end Go.Proofs.YtafkpmjifgohcaaDoor
