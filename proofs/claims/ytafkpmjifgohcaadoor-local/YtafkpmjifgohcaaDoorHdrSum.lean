/- The program's header: its sum, its bytes. -/
import Derived.Test.YtafkpmjifgohcaaDoorTokApp
namespace Go.Proofs.YtafkpmjifgohcaaDoor
open Go.RowKit

set_option maxHeartbeats 400000 in
theorem hdrSum_any (v : Value) (L : List UInt8) (w : World) (hb : Bts w v L) (h0 : 0 < L.length) (hL : L.length ≤ 900000) :
    Calls Tryd.prog 81 #[v] w fun e w' => e = .returned (.int .u32 (Sk.sumOf L)) ∧ w' = w := by
  rcases hb with ⟨_, rfl⟩ | ⟨g, cap, rfl, h1, hg, h2, h3, h4⟩
  · cases h0
  have HC : Hid (∀ j (h : j < L.length), w.cell? ⟨g, j, none⟩ = some (cellOf L[j])) := h4
  clear h2 h3 h4 hg
  go_enter Tryd.func81, Tryd.ntmps81
  go_wp2
  go_loop [3, 4, 9] (fun a b i => ∃ k x y : Nat, k ≤ L.length ∧ i = .int .i64 k ∧ a = .int .u32 x ∧ b = .int .u32 y ∧ x < 65521 ∧ y < 65521 ∧ Sk.sumN (L.drop k) x y = Sk.sumN L 1 0) (fun _ _ i => L.length - (intOf i).toNat)
  case atStart => exact ⟨0, 1, 0, by omega, rfl, rfl, rfl, by omega, by omega, rfl⟩
  case round =>
    obtain ⟨k, x, y, hk, rfl, rfl, rfl, hx, hy, hinv⟩ := hrel
    have HI : Hid (Sk.sumN (L.drop k) x y = Sk.sumN L 1 0) := hinv
    clear hinv
    by_cases hlt : k < L.length
    · have hc : w.cell? ⟨g, k, none⟩ = some (.int .u8 (L[k].toNat : Int)) := HC.out k hlt
      have hbb := UInt8.toNat_lt L[k]
      have HI2 : Hid (Sk.sumN (L.drop (k + 1)) ((x + L[k].toNat) % 65521) ((y + (x + L[k].toNat) % 65521) % 65521) = Sk.sumN L 1 0) := by
        have := HI.out
        rw [List.drop_eq_getElem_cons hlt, Sk.sumN] at this
        exact this
      clear HI
      generalize L[k].toNat = c at *
      go_wp2
      go_round
      case rel => exact ⟨k + 1, _, _, by omega, by go_num, by go_num, by go_num, Nat.mod_lt _ (by decide), Nat.mod_lt _ (by decide), HI2.out⟩
      case measure => simp [intOf]; omega
    · have HI2 : Hid ((x, y) = Sk.sumN L 1 0) := by
        have := HI.out
        rw [List.drop_of_length_le (by omega), Sk.sumN] at this
        exact this
      go_wp2
      go_ret
      exact ⟨ret_int (by unfold Sk.sumOf; rw [← HI2.out]; omega), rfl⟩

theorem sumOf_lt (L : List UInt8) : Sk.sumOf L < 4294967296 := by
  have := Sk.sumN_lt L 1 0 (by decide) (by decide)
  unfold Sk.sumOf
  omega

set_option maxHeartbeats 400000 in
theorem hdrOf_any (f : Bool) (n : Nat) (v : Value) (L : List UInt8) (w : World) (hb : Bts w v L) (h0 : 0 < L.length) (hL : L.length ≤ 900000) :
    Calls Tryd.prog 75 #[.bool f, .int .i64 n, v] w fun e w' => e = .returned (.agg #[.bool f, .int .i64 n, .int .i64 L.length, .int .u32 (Sk.sumOf L)]) ∧ Below w.heap.size w w' := by
  have HB : Hid (Bts w v L) := hb
  obtain ⟨g, cap, rfl⟩ : ∃ g cap, v = .slice (some ⟨g, 0, none⟩) L.length cap := by
    rcases hb with ⟨_, rfl⟩ | ⟨g, cap, rfl, _⟩
    · cases h0
    · exact ⟨g, cap, rfl⟩
  clear hb
  go_enter Tryd.func75, Tryd.ntmps75
  go_wp2_with (go_at_call 81; refine (hdrSum_any _ L _ (HB.out.below ((Below.refl _ _).alloc (Nat.le_refl _) _)) h0 hL).mono ?_; rintro e w' ⟨rfl, rfl⟩)
  exact bodyPost_ret (v := .agg #[.bool f, .int .i64 n, .int .i64 L.length, .int .u32 (Sk.sumOf L)]) (by simp [results, Tryd.results75, go_sem]) rfl ⟨rfl, (Below.refl _ _).alloc (Nat.le_refl _) _⟩

theorem mark_cells (f : Bool) (i : Int) (hi : i = if f then 1 else 0) : (#[Value.int .u8 i] : Array Value).toList = (Sk.le (if f then 1 else 0) 1).map cellOf := by
  subst hi
  cases f <;> simp [Sk.le, cellOf]

set_option maxHeartbeats 400000 in
theorem appendTo_any (f : Bool) (n m x : Nat) (v : Value) (L : List UInt8) (w : World) (hb : Bts w v L) (hL : L.length ≤ 800000) (hn : n ≤ 1024) (hm : m ≤ 65535) (hx : x < 4294967296) :
    Calls Tryd.prog 76 #[.agg #[.bool f, .int .i64 n, .int .i64 m, .int .u32 x], v] w fun e w' => ∃ v', e = .returned v' ∧ Bts w' v' (L ++ Sk.hdr f n m x) ∧ Gr w v w' v' := by
  have HB : Hid (Bts w v L) := hb
  clear hb
  obtain ⟨i, hi⟩ : ∃ i : Int, i = if f then 1 else 0 := ⟨_, rfl⟩
  have hlt : ∀ k, v.ownBlock = some k → k < w.heap.size := HB.out.lt
  have HA : Hid (Apart (((w.alloc (.cells #[.bool f, .int .i64 n, .int .i64 m, .int .u32 x] 105))).alloc (.cells #[.int .u8 i] 5)) v w.heap.size) := ⟨by simp; omega, fun e => by have := hlt _ e; omega⟩
  have HW : Hid (Below w.heap.size w (((w.alloc (.cells #[.bool f, .int .i64 n, .int .i64 m, .int .u32 x] 105))).alloc (.cells #[.int .u8 i] 5))) := ((Below.refl _ _).alloc (Nat.le_refl _) _).alloc (by simp) _
  clear hlt
  obtain ⟨M, hM⟩ : ∃ M : List UInt8, M = Sk.le (if f then 1 else 0) 1 := ⟨_, rfl⟩
  have H1 : Hid (M.length = 1) := by rw [hM]; exact Sk.le_length _ _
  have HH : Hid (Sk.hdr f n m x = M ++ Sk.le n 2 ++ Sk.le m 2 ++ Sk.le x 4) := by rw [hM]; rfl
  have HS : Hid (Src Tryd.prog 1 53 (.slice (some ⟨w.heap.size + 1, 0, none⟩) 1 1) M.length (M.map cellOf) ((w.alloc (.cells #[.bool f, .int .i64 n, .int .i64 m, .int .u32 x] 105)).alloc (.cells #[.int .u8 i] 5))) := by
    have := src_new (w.alloc (.cells #[.bool f, .int .i64 n, .int .i64 m, .int .u32 x] 105)) #[.int .u8 i] 1 M H1.out.symm (by rw [hM]; exact mark_cells f i hi)
    rw [World.size_alloc] at this
    exact this
  clear hM
  have C1 : Hid (((w.alloc (.cells #[.bool f, .int .i64 n, .int .i64 m, .int .u32 x] 105)).alloc (.cells #[.int .u8 i] 5)).cell? ⟨w.heap.size, 1, none⟩ = some (.int .i64 n)) := by show _ = _; go_simp
  have C2 : Hid (((w.alloc (.cells #[.bool f, .int .i64 n, .int .i64 m, .int .u32 x] 105)).alloc (.cells #[.int .u8 i] 5)).cell? ⟨w.heap.size, 2, none⟩ = some (.int .i64 m)) := by show _ = _; go_simp
  have C3 : Hid (((w.alloc (.cells #[.bool f, .int .i64 n, .int .i64 m, .int .u32 x] 105)).alloc (.cells #[.int .u8 i] 5)).cell? ⟨w.heap.size, 3, none⟩ = some (.int .u32 x)) := by show _ = _; go_simp
  cases f
  · obtain rfl : i = 0 := hi
    go_enter Tryd.func76, Tryd.ntmps76
    go_wp2_with (at_builtin; refine wpList_append_bts rfl (.tmp 8) (.tmp 10) 53 rfl v (.slice (some ⟨w.heap.size + 1, 0, none⟩) 1 1) L M rfl rfl (HB.out.below HW.out) HS.out (by rw [H1.out]; decide) (by rw [H1.out]; omega) ?_; intro v1 w1 hb1 hg1; have k1 := (HA.out.cell hg1 1).trans C1.out; have k2 := (HA.out.cell hg1 2).trans C2.out; have k3 := (HA.out.cell hg1 3).trans C3.out; have HA1 : Hid (Apart w1 v1 w.heap.size) := HA.out.step hg1; have HB1 : Hid (Bts w1 v1 (L ++ M)) := hb1; have HG1 : Hid (Gr w v w1 v1) := hg1.after HW.out; clear hb1 hg1)
    refine (appendNumber_at v1 (L ++ M) _ _ n 2 w1 (by omega) rfl HB1.out (by have := H1.out; simp; omega) (by omega) (by decide)).mono ?_
    rintro e w2 ⟨v2, rfl, hb2, hg2⟩
    have j2 := (HA1.out.cell hg2 2).trans k2
    have j3 := (HA1.out.cell hg2 3).trans k3
    have HA2 : Hid (Apart w2 v2 w.heap.size) := HA1.out.step hg2
    have HB2 : Hid (Bts w2 v2 (L ++ M ++ Sk.le n 2)) := hb2
    have HG2 : Hid (Gr w v w2 v2) := HG1.out.trans hg2
    clear hb2 hg2 k1 k2 k3
    go_wp2_with fail
    refine (appendNumber_at v2 (L ++ M ++ Sk.le n 2) _ _ m 2 w2 (by omega) rfl HB2.out (by have := H1.out; simp [Sk.le_length]; omega) (by omega) (by decide)).mono ?_
    rintro e w3 ⟨v3, rfl, hb3, hg3⟩
    have i3 := (HA2.out.cell hg3 3).trans j3
    have HB3 : Hid (Bts w3 v3 (L ++ M ++ Sk.le n 2 ++ Sk.le m 2)) := hb3
    have HG3 : Hid (Gr w v w3 v3) := HG2.out.trans hg3
    clear hb3 hg3 j2 j3
    go_wp2_with fail
    refine (appendNumber_at v3 (L ++ M ++ Sk.le n 2 ++ Sk.le m 2) _ _ x 4 w3 (by omega) rfl HB3.out (by have := H1.out; simp [Sk.le_length]; omega) hx (by decide)).mono ?_
    rintro e w4 ⟨v4, rfl, hb4, hg4⟩
    have HB4 : Hid (Bts w4 v4 (L ++ M ++ Sk.le n 2 ++ Sk.le m 2 ++ Sk.le x 4)) := hb4
    have HG4 : Hid (Gr w v w4 v4) := HG3.out.trans hg4
    clear hb4 hg4
    go_wp2
    go_ret
    refine ⟨_, rfl, ?_, HG4.out⟩
    rw [HH.out]
    have := HB4.out
    simp only [List.append_assoc] at this ⊢
    exact this
  · obtain rfl : i = 1 := hi
    go_enter Tryd.func76, Tryd.ntmps76
    go_wp2_with (at_builtin; refine wpList_append_bts rfl (.tmp 8) (.tmp 10) 53 rfl v (.slice (some ⟨w.heap.size + 1, 0, none⟩) 1 1) L M rfl rfl (HB.out.below HW.out) HS.out (by rw [H1.out]; decide) (by rw [H1.out]; omega) ?_; intro v1 w1 hb1 hg1; have k1 := (HA.out.cell hg1 1).trans C1.out; have k2 := (HA.out.cell hg1 2).trans C2.out; have k3 := (HA.out.cell hg1 3).trans C3.out; have HA1 : Hid (Apart w1 v1 w.heap.size) := HA.out.step hg1; have HB1 : Hid (Bts w1 v1 (L ++ M)) := hb1; have HG1 : Hid (Gr w v w1 v1) := hg1.after HW.out; clear hb1 hg1)
    refine (appendNumber_at v1 (L ++ M) _ _ n 2 w1 (by omega) rfl HB1.out (by have := H1.out; simp; omega) (by omega) (by decide)).mono ?_
    rintro e w2 ⟨v2, rfl, hb2, hg2⟩
    have j2 := (HA1.out.cell hg2 2).trans k2
    have j3 := (HA1.out.cell hg2 3).trans k3
    have HA2 : Hid (Apart w2 v2 w.heap.size) := HA1.out.step hg2
    have HB2 : Hid (Bts w2 v2 (L ++ M ++ Sk.le n 2)) := hb2
    have HG2 : Hid (Gr w v w2 v2) := HG1.out.trans hg2
    clear hb2 hg2 k1 k2 k3
    go_wp2_with fail
    refine (appendNumber_at v2 (L ++ M ++ Sk.le n 2) _ _ m 2 w2 (by omega) rfl HB2.out (by have := H1.out; simp [Sk.le_length]; omega) (by omega) (by decide)).mono ?_
    rintro e w3 ⟨v3, rfl, hb3, hg3⟩
    have i3 := (HA2.out.cell hg3 3).trans j3
    have HB3 : Hid (Bts w3 v3 (L ++ M ++ Sk.le n 2 ++ Sk.le m 2)) := hb3
    have HG3 : Hid (Gr w v w3 v3) := HG2.out.trans hg3
    clear hb3 hg3 j2 j3
    go_wp2_with fail
    refine (appendNumber_at v3 (L ++ M ++ Sk.le n 2 ++ Sk.le m 2) _ _ x 4 w3 (by omega) rfl HB3.out (by have := H1.out; simp [Sk.le_length]; omega) hx (by decide)).mono ?_
    rintro e w4 ⟨v4, rfl, hb4, hg4⟩
    have HB4 : Hid (Bts w4 v4 (L ++ M ++ Sk.le n 2 ++ Sk.le m 2 ++ Sk.le x 4)) := hb4
    have HG4 : Hid (Gr w v w4 v4) := HG3.out.trans hg4
    clear hb4 hg4
    go_wp2
    go_ret
    refine ⟨_, rfl, ?_, HG4.out⟩
    rw [HH.out]
    have := HB4.out
    simp only [List.append_assoc] at this ⊢
    exact this
end Go.Proofs.YtafkpmjifgohcaaDoor
