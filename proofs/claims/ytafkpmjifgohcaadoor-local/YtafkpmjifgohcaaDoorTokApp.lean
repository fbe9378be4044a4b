/- The program's writers of runs, copies and numbers behind a slice of bytes. -/
import Derived.Test.YtafkpmjifgohcaaDoorTokSame
import Derived.Test.YtafkpmjifgohcaaDoorBts
namespace Go.Proofs.YtafkpmjifgohcaaDoor
open Go.RowKit

theorem copy_cells (back count : Nat) (h1 : back ≤ 65535) (h2 : 4 ≤ count) (h3 : count ≤ 131) :
    (#[Value.int .u8 (128 + (count : Int) - 4), .int .u8 ((back : Int) % 256), .int .u8 ((back : Int) / 256)] : Array Value).toList = (Sk.copyOf back count).map cellOf := by
  simp only [Sk.copyOf, Sk.le, List.map_cons, List.map_nil]
  rw [cellOf_ofNat (128 + count - 4) _ (by omega) (by omega), cellOf_ofNat (back % 256) _ (by omega) (by omega), cellOf_ofNat (back / 256 % 256) ((back : Int) / 256) (by omega) (by omega)]

set_option maxHeartbeats 400000 in
theorem appendCopy_any (v : Value) (L : List UInt8) (back count : Nat) (w : World) (hb : Bts w v L) (hL : L.length ≤ 900000) (h1 : back ≤ 65535) (h2 : 4 ≤ count) (h3 : count ≤ 131) :
    Calls Tryd.prog 86 #[v, .int .i64 back, .int .i64 count] w fun e w' => ∃ v', e = .returned v' ∧ Bts w' v' (L ++ Sk.copyOf back count) ∧ Gr w v w' v' := by
  have hl3 : (Sk.copyOf back count).length = 3 := by simp [Sk.copyOf, Sk.le]
  have hsrc := src_new w _ 3 (Sk.copyOf back count) hl3.symm (copy_cells back count h1 h2 h3)
  have HB : Hid (Bts w v L) := hb
  have HL : Hid ((Sk.copyOf back count).length = 3) := hl3
  have HS : Hid _ := hsrc
  clear hsrc hl3 hb
  go_enter Tryd.func86, Tryd.ntmps86
  go_wp2_with (at_builtin; refine wpList_append_bts rfl _ _ 53 rfl v (.slice (some ⟨w.heap.size, 0, none⟩) 3 3) L (Sk.copyOf back count) rfl rfl (HB.out.below ((Below.refl _ _).alloc (Nat.le_refl _) _)) HS.out (by rw [HL.out]; decide) (by rw [HL.out]; omega) ?_; intro v' w' hb' hg')
  go_ret
  exact ⟨_, rfl, hb', hg'.after ((Below.refl _ _).alloc (Nat.le_refl _) _)⟩

theorem appendCopy_at (v : Value) (L : List UInt8) (B C : Int) (back count : Nat) (w : World) (hB : B = back) (hC : C = count) (hb : Bts w v L) (hL : L.length ≤ 900000) (h1 : back ≤ 65535) (h2 : 4 ≤ count) (h3 : count ≤ 131) :
    Calls Tryd.prog 86 #[v, .int .i64 B, .int .i64 C] w fun e w' => ∃ v', e = .returned v' ∧ Bts w' v' (L ++ Sk.copyOf back count) ∧ Gr w v w' v' := by
  subst hB hC
  exact appendCopy_any v L back count w hb hL h1 h2 h3

theorem byte_cells (x : Nat) : (#[Value.int .u8 ((x : Int) % 256)] : Array Value).toList = [UInt8.ofNat (x % 256)].map cellOf := by
  simp only [List.map_cons, List.map_nil]
  rw [cellOf_ofNat (x % 256) _ (by omega) (by omega)]

set_option maxHeartbeats 400000 in
theorem appendNumber_any (v : Value) (L : List UInt8) (n many : Nat) (w : World) (hb : Bts w v L) (hL : L.length ≤ 900000) (hn : n < 4294967296) (hm : many ≤ 8) :
    Calls Tryd.prog 87 #[v, .int .u32 n, .int .i64 many] w fun e w' => ∃ v', e = .returned v' ∧ Bts w' v' (L ++ Sk.le n many) ∧ Gr w v w' v' := by
  go_enter Tryd.func87, Tryd.ntmps87
  go_wp2_with fail
  go_loopw [0, 1, 8] (fun u a i wr => ∃ k x : Nat, ∃ M : List UInt8, k ≤ many ∧ x < 4294967296 ∧ M.length = k ∧ i = .int .i64 k ∧ a = .int .u32 x ∧ Bts wr u (L ++ M) ∧ Gr w v wr u ∧ M ++ Sk.le x (many - k) = Sk.le n many) (fun _ _ i _ => many - (intOf i).toNat)
  case atStart => exact ⟨0, n, [], by omega, hn, rfl, rfl, rfl, by simpa using hb, Gr.refl _ _, rfl⟩
  case round =>
    obtain ⟨k, x, M, hk, hx, hM, rfl, rfl, hbt, hgr, hinv⟩ := hrel
    have HI : Hid (M ++ Sk.le x (many - k) = Sk.le n many) := hinv
    have HM : Hid (M.length = k) := hM
    have HB : Hid (Bts wr u0 (L ++ M)) := hbt
    have HG : Hid (Gr w v wr u0) := hgr
    clear hinv hM hb hbt hgr
    by_cases hlt : k < many
    · have HS : Hid _ := src_new wr _ 1 [UInt8.ofNat (x % 256)] rfl (byte_cells x)
      have HI2 : Hid ((M ++ [UInt8.ofNat (x % 256)]) ++ Sk.le (x / 256) (many - (k + 1)) = Sk.le n many) := by
        have := HI.out
        rw [show many - k = (many - (k + 1)) + 1 by omega, Sk.le] at this
        rw [List.append_assoc]
        exact this
      clear HI
      go_wp2_with (at_builtin; refine wpList_append_bts rfl _ _ 53 rfl u0 (.slice (some ⟨wr.heap.size, 0, none⟩) 1 1) (L ++ M) [UInt8.ofNat (x % 256)] rfl rfl (HB.out.below ((Below.refl _ _).alloc (Nat.le_refl _) _)) HS.out (by simp) (by have := HM.out; simp; omega) ?_; intro v' w' hb' hg')
      go_roundw
      case rel => exact ⟨k + 1, x / 256, M ++ [UInt8.ofNat (x % 256)], by omega, by omega, by rw [List.length_append, HM.out]; rfl, by go_num, by go_num, by rw [← List.append_assoc]; exact hb', HG.out.trans (hg'.after ((Below.refl _ _).alloc (Nat.le_refl _) _)), HI2.out⟩
      case measure => simp [intOf]; omega
    · have HI2 : Hid (M = Sk.le n many) := by
        have := HI.out
        rw [show many - k = 0 by omega, Sk.le, List.append_nil] at this
        exact this
      go_wp2
      go_ret
      exact ⟨_, rfl, by rw [← HI2.out]; exact HB.out, HG.out⟩

theorem appendNumber_at (v : Value) (L : List UInt8) (X M : Int) (n many : Nat) (w : World) (hX : X = n) (hM : M = many) (hb : Bts w v L) (hL : L.length ≤ 900000) (hn : n < 4294967296) (hm : many ≤ 8) :
    Calls Tryd.prog 87 #[v, .int .u32 X, .int .i64 M] w fun e w' => ∃ v', e = .returned v' ∧ Bts w' v' (L ++ Sk.le n many) ∧ Gr w v w' v' := by
  subst hX hM
  exact appendNumber_any v L n many w hb hL hn hm
end Go.Proofs.YtafkpmjifgohcaaDoor
