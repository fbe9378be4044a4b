/- The program's writers of runs, copies and numbers behind a slice of bytes.
tokens.appendRuns writes plain bytes as runs.
The program's header: its sum, its bytes. -/
import Derived.Test.YtafkpmjifgohcaaGreatDoorTokSame
import Derived.Test.YtafkpmjifgohcaaGreatDoorBts
namespace Go.Proofs.YtafkpmjifgohcaaGreatDoor
open Go.RowKit

theorem copy_cells (back count : Nat) (h1 : back ≤ 65535) (h2 : 4 ≤ count) (h3 : count ≤ 131) :
    (#[Value.int .u8 (128 + (count : Int) - 4), .int .u8 ((back : Int) % 256), .int .u8 ((back : Int) / 256)] : Array Value).toList = (Sk.copyOf back count).map cellOf := by
  simp only [Sk.copyOf, Sk.le, List.map_cons, List.map_nil]
  rw [cellOf_ofNat (128 + count - 4) _ (by omega) (by omega), cellOf_ofNat (back % 256) _ (by omega) (by omega), cellOf_ofNat (back / 256 % 256) ((back : Int) / 256) (by omega) (by omega)]

set_option maxHeartbeats 400000 in
theorem appendCopy_any (v : Value) (L : List UInt8) (back count : Nat) (w : World) (hb : Bts w v L) (hL : L.length ≤ 900000) (h1 : back ≤ 65535) (h2 : 4 ≤ count) (h3 : count ≤ 131) :
    Calls Tryz.prog 73 #[v, .int .i64 back, .int .i64 count] w fun e w' => ∃ v', e = .returned v' ∧ Bts w' v' (L ++ Sk.copyOf back count) ∧ Gr w v w' v' := by
  have hl3 : (Sk.copyOf back count).length = 3 := by simp [Sk.copyOf, Sk.le]
  have hsrc := src_new w _ 3 (Sk.copyOf back count) hl3.symm (copy_cells back count h1 h2 h3)
  have HB : Hid (Bts w v L) := hb
  have HL : Hid ((Sk.copyOf back count).length = 3) := hl3
  have HS : Hid _ := hsrc
  clear hsrc hl3 hb
  go_enter Tryz.func73, Tryz.ntmps73
  go_wp2_with (at_builtin; refine wpList_append_bts rfl _ _ 75 rfl v (.slice (some ⟨w.heap.size, 0, none⟩) 3 3) L (Sk.copyOf back count) rfl rfl (HB.out.below ((Below.refl _ _).alloc (Nat.le_refl _) _)) HS.out (by rw [HL.out]; decide) (by rw [HL.out]; omega) ?_; intro v' w' hb' hg')
  go_ret
  exact ⟨_, rfl, hb', hg'.after ((Below.refl _ _).alloc (Nat.le_refl _) _)⟩

theorem appendCopy_at (v : Value) (L : List UInt8) (B C : Int) (back count : Nat) (w : World) (hB : B = back) (hC : C = count) (hb : Bts w v L) (hL : L.length ≤ 900000) (h1 : back ≤ 65535) (h2 : 4 ≤ count) (h3 : count ≤ 131) :
    Calls Tryz.prog 73 #[v, .int .i64 B, .int .i64 C] w fun e w' => ∃ v', e = .returned v' ∧ Bts w' v' (L ++ Sk.copyOf back count) ∧ Gr w v w' v' := by
  subst hB hC
  exact appendCopy_any v L back count w hb hL h1 h2 h3

theorem byte_cells (x : Nat) : (#[Value.int .u8 ((x : Int) % 256)] : Array Value).toList = [UInt8.ofNat (x % 256)].map cellOf := by
  simp only [List.map_cons, List.map_nil]
  rw [cellOf_ofNat (x % 256) _ (by omega) (by omega)]

set_option maxHeartbeats 400000 in
theorem appendNumber_any (v : Value) (L : List UInt8) (n many : Nat) (w : World) (hb : Bts w v L) (hL : L.length ≤ 900000) (hn : n < 4294967296) (hm : many ≤ 8) :
    Calls Tryz.prog 75 #[v, .int .u32 n, .int .i64 many] w fun e w' => ∃ v', e = .returned v' ∧ Bts w' v' (L ++ Sk.le n many) ∧ Gr w v w' v' := by
  go_enter Tryz.func75, Tryz.ntmps75
  go_wp2_with fail
  go_loopw [0, 1, 8] (fun u a i wr => ∃ k x : Nat, ∃ M : List UInt8, k ≤ many ∧ x < 4294967296 ∧ M.length = k ∧ i = .int .i64 k ∧ a = .int .u32 x ∧ Bts wr u (L ++ M) ∧ Gr w v wr u ∧ M ++ Sk.le x (many - k) = Sk.le n many) (fun _ _ i _ => many - (intOf i).toNat)
  case atStart => exact ⟨0, n, [], by omega, hn, rfl, rfl, rfl, by simpa using hb, Gr.refl _ _, rfl⟩
  case round =>
    obtain ⟨k, x, M, hk, hx, hM, rfl, rfl, hbt, hgr, hinv⟩ := hrel
    have HI : Hid (M ++ Sk.le x (many - k) = Sk.le n many) := hinv
    have HM : Hid (M.length = k) := hM
    have HB : Hid (Bts wr u0 (L ++ M)) := hbt
    have HG : Hid (Gr w v wr u0) := hgr
    clear hinv hM hb hbt hgr
    by_cases hlt : k < many
    · have HS : Hid _ := src_new wr _ 1 [UInt8.ofNat (x % 256)] rfl (byte_cells x)
      have HI2 : Hid ((M ++ [UInt8.ofNat (x % 256)]) ++ Sk.le (x / 256) (many - (k + 1)) = Sk.le n many) := by
        have := HI.out
        rw [show many - k = (many - (k + 1)) + 1 by omega, Sk.le] at this
        rw [List.append_assoc]
        exact this
      clear HI
      go_wp2_with (at_builtin; refine wpList_append_bts rfl _ _ 75 rfl u0 (.slice (some ⟨wr.heap.size, 0, none⟩) 1 1) (L ++ M) [UInt8.ofNat (x % 256)] rfl rfl (HB.out.below ((Below.refl _ _).alloc (Nat.le_refl _) _)) HS.out (by simp) (by have := HM.out; simp; omega) ?_; intro v' w' hb' hg')
      go_roundw
      case rel => exact ⟨k + 1, x / 256, M ++ [UInt8.ofNat (x % 256)], by omega, by omega, by rw [List.length_append, HM.out]; rfl, by go_num, by go_num, by rw [← List.append_assoc]; exact hb', HG.out.trans (hg'.after ((Below.refl _ _).alloc (Nat.le_refl _) _)), HI2.out⟩
      case measure => simp [intOf]; omega
    · have HI2 : Hid (M = Sk.le n many) := by
        have := HI.out
        rw [show many - k = 0 by omega, Sk.le, List.append_nil] at this
        exact this
      go_wp2
      go_ret
      exact ⟨_, rfl, by rw [← HI2.out]; exact HB.out, HG.out⟩

theorem appendNumber_at (v : Value) (L : List UInt8) (X M : Int) (n many : Nat) (w : World) (hX : X = n) (hM : M = many) (hb : Bts w v L) (hL : L.length ≤ 900000) (hn : n < 4294967296) (hm : many ≤ 8) :
    Calls Tryz.prog 75 #[v, .int .u32 X, .int .i64 M] w fun e w' => ∃ v', e = .returned v' ∧ Bts w' v' (L ++ Sk.le n many) ∧ Gr w v w' v' := by
  subst hX hM
  exact appendNumber_any v L n many w hb hL hn hm
end Go.Proofs.YtafkpmjifgohcaaGreatDoor

namespace Go.Proofs.YtafkpmjifgohcaaGreatDoor
open Go.RowKit

theorem src_str' (w : World) (t : ByteArray) (M : List UInt8) (h : t.data.toList = M) : Src Tryz.prog 1 9 (.string t) M.length (M.map cellOf) w := by
  subst h
  exact Src.ofString (P := Tryz.prog) w (tx := 9) Tryz.underlying9 t

def strLen : Value → Nat
  | .string t => t.size
  | _ => 0

theorem size_cells (n : Nat) (h0 : 0 < n) (h : n ≤ 128) : (#[Value.int .u8 ((n : Int) - 1)] : Array Value).toList = [UInt8.ofNat (n - 1)].map cellOf := by
  simp only [List.map_cons, List.map_nil]
  rw [cellOf_ofNat (n - 1) _ (by omega) (by omega)]

theorem full_cells : (#[Value.int .u8 127] : Array Value).toList = [UInt8.ofNat 127].map cellOf := by
  simp only [List.map_cons, List.map_nil]
  rw [cellOf_ofNat 127 127 rfl (by decide)]

theorem ne_nil {R : List UInt8} (h : 0 < R.length) : R ≠ [] := List.length_pos_iff.1 h

theorem ext_take (t : ByteArray) (R : List UInt8) (n : Nat) (h : t.data.toList = R) : (t.extract 0 n).data.toList = R.take n := by
  subst h
  simp [ByteArray.data_extract]
theorem ext_drop (t : ByteArray) (R : List UInt8) (n : Nat) (h : t.data.toList = R) : (t.extract n t.size).data.toList = R.drop n := by
  subst h
  rw [ByteArray.data_extract, Array.toList_extract, List.extract_eq_take_drop, List.take_of_length_le]
  rw [List.length_drop, Array.length_toList]
  exact Nat.le_refl _

set_option maxHeartbeats 400000 in
theorem appendRuns_any (v : Value) (L : List UInt8) (s : ByteArray) (P : List UInt8) (w : World) (hP : s.data.toList = P) (hb : Bts w v L) (hL : L.length + 2 * P.length ≤ 900000) :
    Calls Tryz.prog 72 #[v, .string s] w fun e w' => ∃ v', e = .returned v' ∧ Bts w' v' (L ++ Sk.runsOf P) ∧ Gr w v w' v' := by
  have HP : Hid (s.data.toList = P) := hP
  clear hP
  go_enter Tryz.func72, Tryz.ntmps72
  go_wp2_with fail
  go_loopw [0, 1] (fun u p wr => ∃ (t : ByteArray) (M R : List UInt8), t.data.toList = R ∧ p = .string t ∧ Bts wr u (L ++ M) ∧ Gr w v wr u ∧ M ++ Sk.runsOf R = Sk.runsOf P ∧ M.length + 2 * R.length ≤ 2 * P.length) (fun _ p _ => strLen p)
  case atStart => exact ⟨s, [], P, HP.out, rfl, by simpa using hb, Gr.refl _ _, rfl, by simp⟩
  case round =>
    obtain ⟨t, M, R, hR, rfl, hbt, hgr, hinv, hlen⟩ := hrel
    have HI : Hid (M ++ Sk.runsOf R = Sk.runsOf P) := hinv
    have HR : Hid (t.data.toList = R) := hR
    have HZ : Hid (t.size = R.length) := by rw [← hR]; exact (Array.length_toList).symm
    have HB : Hid (Bts wr u0 (L ++ M)) := hbt
    have HG : Hid (Gr w v wr u0) := hgr
    clear hinv hR hb hbt hgr
    have hz : t.size ≤ 1000000 := by have := HZ.out; omega
    by_cases h0 : 0 < t.size
    · by_cases h128 : t.size ≤ 128
      · have HS : Hid _ := src_new wr _ 1 [UInt8.ofNat (t.size - 1)] rfl (size_cells t.size h0 h128)
        have HI2 : Hid ((M ++ [UInt8.ofNat (t.size - 1)] ++ R) ++ Sk.runsOf [] = Sk.runsOf P) := by
          show _ = _
          have := HI.out
          rw [Sk.runsOf_step R (ne_nil (by have := HZ.out; omega)), List.take_of_length_le (by have := HZ.out; omega), List.drop_of_length_le (by have := HZ.out; omega), show min R.length 128 - 1 = t.size - 1 by have := HZ.out; omega] at this
          simpa using this
        clear HI
        go_wp2_with (first | (at_builtin; refine wpList_append_bts rfl (.tmp 12) (.tmp 16) 75 rfl u0 (.slice (some ⟨wr.heap.size, 0, none⟩) 1 1) (L ++ M) [UInt8.ofNat (t.size - 1)] rfl rfl (HB.out.below ((Below.refl _ _).alloc (Nat.le_refl _) _)) HS.out (by simp) (by simp; omega) ?_; intro v1 w1 hb1 hg1; have HB1 : Hid (Bts w1 v1 (L ++ M ++ [UInt8.ofNat (t.size - 1)])) := hb1; have HG1 : Hid (Gr _ u0 w1 v1) := hg1; clear hb1 hg1) | (at_builtin; refine wpList_append_bts rfl (.tmp 18) (.tmp 21) 9 rfl _ (.string t) _ R rfl rfl HB1.out (src_str' _ t R HR.out) (by have := HZ.out; omega) (by have := HZ.out; simp; omega) ?_; intro v2 w2 hb2 hg2; have HB2 : Hid (Bts w2 v2 (L ++ M ++ [UInt8.ofNat (t.size - 1)] ++ R)) := hb2; have HG2 : Hid (Gr w1 v1 w2 v2) := hg2; clear hb2 hg2))
        go_roundw
        case rel =>
          refine ⟨_, M ++ [UInt8.ofNat (t.size - 1)] ++ R, [], ?_, rfl, ?_, (HG.out.trans (HG1.out.after ((Below.refl _ _).alloc (Nat.le_refl _) _))).trans HG2.out, HI2.out, ?_⟩
          · simp
          · have := HB2.out
            rw [List.append_assoc, List.append_assoc] at this
            rw [List.append_assoc]
            exact this
          · have := HZ.out
            simp
            omega
        case measure => simp [strLen]; omega
      · have HS : Hid _ := src_new wr _ 1 [UInt8.ofNat 127] rfl full_cells
        have HI2 : Hid ((M ++ [UInt8.ofNat 127] ++ R.take 128) ++ Sk.runsOf (R.drop 128) = Sk.runsOf P) := by
          show _ = _
          have := HI.out
          rw [Sk.runsOf_step R (ne_nil (by have := HZ.out; omega)), show min R.length 128 - 1 = 127 by have := HZ.out; omega] at this
          simpa using this
        clear HI
        have hgt : (128 : Int) < t.size := by omega
        have HT : Hid ((R.take 128).length = 128) := by show _ = _; have := HZ.out; rw [List.length_take]; omega
        go_wp2_with (first | (at_builtin; refine wpList_append_bts rfl (.tmp 12) (.tmp 16) 75 rfl u0 (.slice (some ⟨wr.heap.size, 0, none⟩) 1 1) (L ++ M) [UInt8.ofNat 127] rfl rfl (HB.out.below ((Below.refl _ _).alloc (Nat.le_refl _) _)) HS.out (by simp) (by simp; omega) ?_; intro v1 w1 hb1 hg1; have HB1 : Hid (Bts w1 v1 (L ++ M ++ [UInt8.ofNat 127])) := hb1; have HG1 : Hid (Gr _ u0 w1 v1) := hg1; clear hb1 hg1) | (at_builtin; refine wpList_append_bts rfl (.tmp 18) (.tmp 21) 9 rfl _ (.string (t.extract 0 128)) _ (R.take 128) rfl rfl HB1.out (src_str' _ _ _ (ext_take t R 128 HR.out)) (by rw [HT.out]; decide) (by have := HZ.out; rw [HT.out]; simp; omega) ?_; intro v2 w2 hb2 hg2; have HB2 : Hid (Bts w2 v2 (L ++ M ++ [UInt8.ofNat 127] ++ R.take 128)) := hb2; have HG2 : Hid (Gr w1 v1 w2 v2) := hg2; clear hb2 hg2))
        go_roundw
        case rel =>
          refine ⟨_, M ++ [UInt8.ofNat 127] ++ R.take 128, R.drop 128, ?_, rfl, ?_, (HG.out.trans (HG1.out.after ((Below.refl _ _).alloc (Nat.le_refl _) _))).trans HG2.out, HI2.out, ?_⟩
          · exact ext_drop t R 128 HR.out
          · have := HB2.out
            rw [List.append_assoc, List.append_assoc] at this
            rw [List.append_assoc]
            exact this
          · have := HZ.out
            simp
            omega
        case measure => simp [strLen]; omega
    · have HI2 : Hid (M = Sk.runsOf P) := by
        have := HI.out
        rw [show R = [] from List.length_eq_zero_iff.1 (by have := HZ.out; omega), Sk.runsOf_nil, List.append_nil] at this
        exact this
      go_wp2
      go_ret
      exact ⟨_, rfl, by rw [← HI2.out]; exact HB.out, HG.out⟩
end Go.Proofs.YtafkpmjifgohcaaGreatDoor

namespace Go.Proofs.YtafkpmjifgohcaaGreatDoor
open Go.RowKit

set_option maxHeartbeats 400000 in
theorem hdrSum_any (v : Value) (L : List UInt8) (w : World) (hb : Bts w v L) (h0 : 0 < L.length) (hL : L.length ≤ 900000) :
    Calls Tryz.prog 74 #[v] w fun e w' => e = .returned (.int .u32 (Sk.sumOf L)) ∧ w' = w := by
  rcases hb with ⟨_, rfl⟩ | ⟨g, cap, rfl, h1, hg, h2, h3, h4⟩
  · cases h0
  have HC : Hid (∀ j (h : j < L.length), w.cell? ⟨g, j, none⟩ = some (cellOf L[j])) := h4
  clear h2 h3 h4 hg
  go_enter Tryz.func74, Tryz.ntmps74
  go_wp2
  go_loop [3, 4, 9] (fun a b i => ∃ k x y : Nat, k ≤ L.length ∧ i = .int .i64 k ∧ a = .int .u32 x ∧ b = .int .u32 y ∧ x < 65521 ∧ y < 65521 ∧ Sk.sumN (L.drop k) x y = Sk.sumN L 1 0) (fun _ _ i => L.length - (intOf i).toNat)
  case atStart => exact ⟨0, 1, 0, by omega, rfl, rfl, rfl, by omega, by omega, rfl⟩
  case round =>
    obtain ⟨k, x, y, hk, rfl, rfl, rfl, hx, hy, hinv⟩ := hrel
    have HI : Hid (Sk.sumN (L.drop k) x y = Sk.sumN L 1 0) := hinv
    clear hinv
    by_cases hlt : k < L.length
    · have hc : w.cell? ⟨g, k, none⟩ = some (.int .u8 (L[k].toNat : Int)) := HC.out k hlt
      have hbb := UInt8.toNat_lt L[k]
      have HI2 : Hid (Sk.sumN (L.drop (k + 1)) ((x + L[k].toNat) % 65521) ((y + (x + L[k].toNat) % 65521) % 65521) = Sk.sumN L 1 0) := by
        have := HI.out
        rw [List.drop_eq_getElem_cons hlt, Sk.sumN] at this
        exact this
      clear HI
      generalize L[k].toNat = c at *
      go_wp2
      go_round
      case rel => exact ⟨k + 1, _, _, by omega, by go_num, by go_num, by go_num, Nat.mod_lt _ (by decide), Nat.mod_lt _ (by decide), HI2.out⟩
      case measure => simp [intOf]; omega
    · have HI2 : Hid ((x, y) = Sk.sumN L 1 0) := by
        have := HI.out
        rw [List.drop_of_length_le (by omega), Sk.sumN] at this
        exact this
      go_wp2
      go_ret
      exact ⟨ret_int (by unfold Sk.sumOf; rw [← HI2.out]; omega), rfl⟩

theorem sumOf_lt (L : List UInt8) : Sk.sumOf L < 4294967296 := by
  have := Sk.sumN_lt L 1 0 (by decide) (by decide)
  unfold Sk.sumOf
  omega

set_option maxHeartbeats 400000 in
theorem hdrOf_any (f : Bool) (n : Nat) (v : Value) (L : List UInt8) (w : World) (hb : Bts w v L) (h0 : 0 < L.length) (hL : L.length ≤ 900000) :
    Calls Tryz.prog 58 #[.bool f, .int .i64 n, v] w fun e w' => e = .returned (.agg #[.bool f, .int .i64 n, .int .i64 L.length, .int .u32 (Sk.sumOf L)]) ∧ Below w.heap.size w w' := by
  have HB : Hid (Bts w v L) := hb
  obtain ⟨g, cap, rfl⟩ : ∃ g cap, v = .slice (some ⟨g, 0, none⟩) L.length cap := by
    rcases hb with ⟨_, rfl⟩ | ⟨g, cap, rfl, _⟩
    · cases h0
    · exact ⟨g, cap, rfl⟩
  clear hb
  go_enter Tryz.func58, Tryz.ntmps58
  go_wp2_with (go_at_call 74; refine (hdrSum_any _ L _ (HB.out.below ((Below.refl _ _).alloc (Nat.le_refl _) _)) h0 hL).mono ?_; rintro e w' ⟨rfl, rfl⟩)
  exact bodyPost_ret (v := .agg #[.bool f, .int .i64 n, .int .i64 L.length, .int .u32 (Sk.sumOf L)]) (by simp [results, Tryz.results58, go_sem]) rfl ⟨rfl, (Below.refl _ _).alloc (Nat.le_refl _) _⟩

theorem mark_cells (f : Bool) (i : Int) (hi : i = if f then 1 else 0) : (#[Value.int .u8 i] : Array Value).toList = (Sk.le (if f then 1 else 0) 1).map cellOf := by
  subst hi
  cases f <;> simp [Sk.le, cellOf]

set_option maxHeartbeats 400000 in
theorem appendTo_any (f : Bool) (n m x : Nat) (v : Value) (L : List UInt8) (w : World) (hb : Bts w v L) (hL : L.length ≤ 800000) (hn : n ≤ 1024) (hm : m ≤ 65535) (hx : x < 4294967296) :
    Calls Tryz.prog 59 #[.agg #[.bool f, .int .i64 n, .int .i64 m, .int .u32 x], v] w fun e w' => ∃ v', e = .returned v' ∧ Bts w' v' (L ++ Sk.hdr f n m x) ∧ Gr w v w' v' := by
  have HB : Hid (Bts w v L) := hb
  clear hb
  obtain ⟨i, hi⟩ : ∃ i : Int, i = if f then 1 else 0 := ⟨_, rfl⟩
  have hlt : ∀ k, v.ownBlock = some k → k < w.heap.size := HB.out.lt
  have HA : Hid (Apart (((w.alloc (.cells #[.bool f, .int .i64 n, .int .i64 m, .int .u32 x] 126))).alloc (.cells #[.int .u8 i] 5)) v w.heap.size) := ⟨by simp; omega, fun e => by have := hlt _ e; omega⟩
  have HW : Hid (Below w.heap.size w (((w.alloc (.cells #[.bool f, .int .i64 n, .int .i64 m, .int .u32 x] 126))).alloc (.cells #[.int .u8 i] 5))) := ((Below.refl _ _).alloc (Nat.le_refl _) _).alloc (by simp) _
  clear hlt
  obtain ⟨M, hM⟩ : ∃ M : List UInt8, M = Sk.le (if f then 1 else 0) 1 := ⟨_, rfl⟩
  have H1 : Hid (M.length = 1) := by rw [hM]; exact Sk.le_length _ _
  have HH : Hid (Sk.hdr f n m x = M ++ Sk.le n 2 ++ Sk.le m 2 ++ Sk.le x 4) := by rw [hM]; rfl
  have HS : Hid (Src Tryz.prog 1 75 (.slice (some ⟨w.heap.size + 1, 0, none⟩) 1 1) M.length (M.map cellOf) ((w.alloc (.cells #[.bool f, .int .i64 n, .int .i64 m, .int .u32 x] 126)).alloc (.cells #[.int .u8 i] 5))) := by
    have := src_new (w.alloc (.cells #[.bool f, .int .i64 n, .int .i64 m, .int .u32 x] 126)) #[.int .u8 i] 1 M H1.out.symm (by rw [hM]; exact mark_cells f i hi)
    rw [World.size_alloc] at this
    exact this
  clear hM
  have C1 : Hid (((w.alloc (.cells #[.bool f, .int .i64 n, .int .i64 m, .int .u32 x] 126)).alloc (.cells #[.int .u8 i] 5)).cell? ⟨w.heap.size, 1, none⟩ = some (.int .i64 n)) := by show _ = _; go_simp
  have C2 : Hid (((w.alloc (.cells #[.bool f, .int .i64 n, .int .i64 m, .int .u32 x] 126)).alloc (.cells #[.int .u8 i] 5)).cell? ⟨w.heap.size, 2, none⟩ = some (.int .i64 m)) := by show _ = _; go_simp
  have C3 : Hid (((w.alloc (.cells #[.bool f, .int .i64 n, .int .i64 m, .int .u32 x] 126)).alloc (.cells #[.int .u8 i] 5)).cell? ⟨w.heap.size, 3, none⟩ = some (.int .u32 x)) := by show _ = _; go_simp
  cases f
  · obtain rfl : i = 0 := hi
    go_enter Tryz.func59, Tryz.ntmps59
    go_wp2_with (at_builtin; refine wpList_append_bts rfl (.tmp 8) (.tmp 10) 75 rfl v (.slice (some ⟨w.heap.size + 1, 0, none⟩) 1 1) L M rfl rfl (HB.out.below HW.out) HS.out (by rw [H1.out]; decide) (by rw [H1.out]; omega) ?_; intro v1 w1 hb1 hg1; have k1 := (HA.out.cell hg1 1).trans C1.out; have k2 := (HA.out.cell hg1 2).trans C2.out; have k3 := (HA.out.cell hg1 3).trans C3.out; have HA1 : Hid (Apart w1 v1 w.heap.size) := HA.out.step hg1; have HB1 : Hid (Bts w1 v1 (L ++ M)) := hb1; have HG1 : Hid (Gr w v w1 v1) := hg1.after HW.out; clear hb1 hg1)
    refine (appendNumber_at v1 (L ++ M) _ _ n 2 w1 (by omega) rfl HB1.out (by have := H1.out; simp; omega) (by omega) (by decide)).mono ?_
    rintro e w2 ⟨v2, rfl, hb2, hg2⟩
    have j2 := (HA1.out.cell hg2 2).trans k2
    have j3 := (HA1.out.cell hg2 3).trans k3
    have HA2 : Hid (Apart w2 v2 w.heap.size) := HA1.out.step hg2
    have HB2 : Hid (Bts w2 v2 (L ++ M ++ Sk.le n 2)) := hb2
    have HG2 : Hid (Gr w v w2 v2) := HG1.out.trans hg2
    clear hb2 hg2 k1 k2 k3
    go_wp2_with fail
    refine (appendNumber_at v2 (L ++ M ++ Sk.le n 2) _ _ m 2 w2 (by omega) rfl HB2.out (by have := H1.out; simp [Sk.le_length]; omega) (by omega) (by decide)).mono ?_
    rintro e w3 ⟨v3, rfl, hb3, hg3⟩
    have i3 := (HA2.out.cell hg3 3).trans j3
    have HB3 : Hid (Bts w3 v3 (L ++ M ++ Sk.le n 2 ++ Sk.le m 2)) := hb3
    have HG3 : Hid (Gr w v w3 v3) := HG2.out.trans hg3
    clear hb3 hg3 j2 j3
    go_wp2_with fail
    refine (appendNumber_at v3 (L ++ M ++ Sk.le n 2 ++ Sk.le m 2) _ _ x 4 w3 (by omega) rfl HB3.out (by have := H1.out; simp [Sk.le_length]; omega) hx (by decide)).mono ?_
    rintro e w4 ⟨v4, rfl, hb4, hg4⟩
    have HB4 : Hid (Bts w4 v4 (L ++ M ++ Sk.le n 2 ++ Sk.le m 2 ++ Sk.le x 4)) := hb4
    have HG4 : Hid (Gr w v w4 v4) := HG3.out.trans hg4
    clear hb4 hg4
    go_wp2
    go_ret
    refine ⟨_, rfl, ?_, HG4.out⟩
    rw [HH.out]
    have := HB4.out
    simp only [List.append_assoc] at this ⊢
    exact this
  · obtain rfl : i = 1 := hi
    go_enter Tryz.func59, Tryz.ntmps59
    go_wp2_with (at_builtin; refine wpList_append_bts rfl (.tmp 8) (.tmp 10) 75 rfl v (.slice (some ⟨w.heap.size + 1, 0, none⟩) 1 1) L M rfl rfl (HB.out.below HW.out) HS.out (by rw [H1.out]; decide) (by rw [H1.out]; omega) ?_; intro v1 w1 hb1 hg1; have k1 := (HA.out.cell hg1 1).trans C1.out; have k2 := (HA.out.cell hg1 2).trans C2.out; have k3 := (HA.out.cell hg1 3).trans C3.out; have HA1 : Hid (Apart w1 v1 w.heap.size) := HA.out.step hg1; have HB1 : Hid (Bts w1 v1 (L ++ M)) := hb1; have HG1 : Hid (Gr w v w1 v1) := hg1.after HW.out; clear hb1 hg1)
    refine (appendNumber_at v1 (L ++ M) _ _ n 2 w1 (by omega) rfl HB1.out (by have := H1.out; simp; omega) (by omega) (by decide)).mono ?_
    rintro e w2 ⟨v2, rfl, hb2, hg2⟩
    have j2 := (HA1.out.cell hg2 2).trans k2
    have j3 := (HA1.out.cell hg2 3).trans k3
    have HA2 : Hid (Apart w2 v2 w.heap.size) := HA1.out.step hg2
    have HB2 : Hid (Bts w2 v2 (L ++ M ++ Sk.le n 2)) := hb2
    have HG2 : Hid (Gr w v w2 v2) := HG1.out.trans hg2
    clear hb2 hg2 k1 k2 k3
    go_wp2_with fail
    refine (appendNumber_at v2 (L ++ M ++ Sk.le n 2) _ _ m 2 w2 (by omega) rfl HB2.out (by have := H1.out; simp [Sk.le_length]; omega) (by omega) (by decide)).mono ?_
    rintro e w3 ⟨v3, rfl, hb3, hg3⟩
    have i3 := (HA2.out.cell hg3 3).trans j3
    have HB3 : Hid (Bts w3 v3 (L ++ M ++ Sk.le n 2 ++ Sk.le m 2)) := hb3
    have HG3 : Hid (Gr w v w3 v3) := HG2.out.trans hg3
    clear hb3 hg3 j2 j3
    go_wp2_with fail
    refine (appendNumber_at v3 (L ++ M ++ Sk.le n 2 ++ Sk.le m 2) _ _ x 4 w3 (by omega) rfl HB3.out (by have := H1.out; simp [Sk.le_length]; omega) hx (by decide)).mono ?_
    rintro e w4 ⟨v4, rfl, hb4, hg4⟩
    have HB4 : Hid (Bts w4 v4 (L ++ M ++ Sk.le n 2 ++ Sk.le m 2 ++ Sk.le x 4)) := hb4
    have HG4 : Hid (Gr w v w4 v4) := HG3.out.trans hg4
    clear hb4 hg4
    go_wp2
    go_ret
    refine ⟨_, rfl, ?_, HG4.out⟩
    rw [HH.out]
    have := HB4.out
    simp only [List.append_assoc] at this ⊢
    exact this
end Go.Proofs.YtafkpmjifgohcaaGreatDoor
