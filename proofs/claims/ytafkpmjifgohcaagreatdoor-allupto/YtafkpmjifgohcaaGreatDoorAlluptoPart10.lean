/- The law's own sealed: a text of the same length. -/
import Derived.Test.YtafkpmjifgohcaaGreatDoorAlluptoPart4
import Derived.Test.YtafkpmjifgohcaaGreatDoorAlluptoPart1
import Derived.Test.YtafkpmjifgohcaaGreatDoorAlluptoPart9
namespace Go.Proofs.YtafkpmjifgohcaaGreatDoor
open Go.RowKit

theorem cellsOf_pos : ∀ (bs : List Sk.Blk) (k : Nat) (h : k < bs.length), (Sk.cellsOf bs)[k * 4 + 2]? = some (.int .i64 bs[k].pos)
  | b :: bs, 0, _ => rfl
  | b :: bs, k + 1, h => by
    have := cellsOf_pos bs k (by simpa using h)
    rw [show Sk.cellsOf (b :: bs) = b.cells ++ Sk.cellsOf bs from rfl, List.getElem?_append_right (by simp [Sk.Blk.cells]; omega)]
    rw [show (k + 1) * 4 + 2 - b.cells.length = k * 4 + 2 by simp [Sk.Blk.cells]; omega]
    exact this

theorem Rw.cellAt {w : World} {sz n g cap : Nat} {xs : List Value} (h : Rw w sz (.slice (some ⟨g, 0, none⟩) n cap) n xs) (j : Nat) (v : Value) (hj : xs[j]? = some v) : w.cell? ⟨g, j, none⟩ = some v := by
  obtain ⟨hl, e⟩ := List.getElem?_eq_some_iff.1 hj
  rw [h.cell j hl, e]

/-- Four bytes that were just made, as a string. -/
theorem four_bytes (W : World) (c0 c1 c2 c3 : Int) (h0 : 0 ≤ c0 ∧ c0 < 256) (h1 : 0 ≤ c1 ∧ c1 < 256) (h2 : 0 ≤ c2 ∧ c2 < 256) (h3 : 0 ≤ c3 ∧ c3 < 256) :
    (convert 75 9 (.slice (some ⟨W.heap.size, 0, none⟩) 4 4)).run Tryz.prog (W.alloc (.cells #[.int .u8 c0, .int .u8 c1, .int .u8 c2, .int .u8 c3] 5)) =
      .ok (.string ⟨#[UInt8.ofNat c0.toNat, UInt8.ofNat c1.toNat, UInt8.ofNat c2.toNat, UInt8.ofNat c3.toNat]⟩) (W.alloc (.cells #[.int .u8 c0, .int .u8 c1, .int .u8 c2, .int .u8 c3] 5)) := by
  have e : ∀ c : Int, 0 ≤ c ∧ c < 256 → ((UInt8.ofNat c.toNat).toNat : Int) = c := fun c hc => by simp [UInt8.toNat_ofNat']; omega
  have := run_convert_bytes_back (P := Tryz.prog) (W.alloc (.cells #[.int .u8 c0, .int .u8 c1, .int .u8 c2, .int .u8 c3] 5)) 75 9 5 ⟨W.heap.size, 0, none⟩ 4 [UInt8.ofNat c0.toNat, UInt8.ofNat c1.toNat, UInt8.ofNat c2.toNat, UInt8.ofNat c3.toNat] Tryz.underlying75 Tryz.underlying5 Tryz.underlying9 (by
    intro j hj
    have e2 : (⟨W.heap.size, 0, none⟩ : Addr).add j = ⟨W.heap.size, j, none⟩ := add_plain _ _
    rw [e2, World.cell?_alloc_new]
    match j, hj with
    | 0, _ => show some _ = some (Value.int .u8 _); rw [show ([UInt8.ofNat c0.toNat, UInt8.ofNat c1.toNat, UInt8.ofNat c2.toNat, UInt8.ofNat c3.toNat] : List UInt8)[0] = UInt8.ofNat c0.toNat from rfl, e c0 h0]; rfl
    | 1, _ => show some _ = some (Value.int .u8 _); rw [show ([UInt8.ofNat c0.toNat, UInt8.ofNat c1.toNat, UInt8.ofNat c2.toNat, UInt8.ofNat c3.toNat] : List UInt8)[1] = UInt8.ofNat c1.toNat from rfl, e c1 h1]; rfl
    | 2, _ => show some _ = some (Value.int .u8 _); rw [show ([UInt8.ofNat c0.toNat, UInt8.ofNat c1.toNat, UInt8.ofNat c2.toNat, UInt8.ofNat c3.toNat] : List UInt8)[2] = UInt8.ofNat c2.toNat from rfl, e c2 h2]; rfl
    | 3, _ => show some _ = some (Value.int .u8 _); rw [show ([UInt8.ofNat c0.toNat, UInt8.ofNat c1.toNat, UInt8.ofNat c2.toNat, UInt8.ofNat c3.toNat] : List UInt8)[3] = UInt8.ofNat c3.toNat from rfl, e c3 h3]; rfl)
  exact this

theorem num2 (s : List UInt8) (p : Nat) : Sk.numAt s p 2 = (Sk.gt s p).toNat + 256 * (Sk.gt s (p + 1)).toNat := by
  simp [Sk.numAt]

set_option maxRecDepth 100000 in
set_option maxHeartbeats 3200000 in
theorem sealed_yes (s : ByteArray) (p : Nat) (w : World) (hs : s.size ≤ 1000000000000000) (hp : p < s.size) (hc : (Sk.openR s.data.toList).1 = 0) :
    Calls Tryz.prog 40 #[.string s, .int .i64 p] w fun e w' => ∃ u : ByteArray, e = .returned (.string u) ∧ u.size = s.size ∧ Below w.heap.size w w' := by
  have HC : Hid ((Sk.openR s.data.toList).1 = 0) := hc
  have hin := Sk.openR_inside s.data.toList
  have hdat := Sk.openR_data s.data.toList
  obtain ⟨bs, hbs⟩ : ∃ bs, bs = (Sk.openR s.data.toList).2.1 := ⟨_, rfl⟩
  obtain ⟨d, hd⟩ : ∃ d, d = (Sk.openR s.data.toList).2.2 := ⟨_, rfl⟩
  rw [← hbs] at hin
  rw [← hbs, ← hd] at hdat
  have HBS : Hid ((Sk.openR s.data.toList).2.1 = bs) := hbs.symm
  have HDD : Hid ((Sk.openR s.data.toList).2.2 = d) := hd.symm
  have hlen : s.data.toList.length = s.size := Array.length_toList
  have HIN : Hid (∀ b ∈ bs, Sk.Inside s.data.toList b) := hin
  have HLN : Hid (s.data.toList.length = s.size) := hlen
  have hbl : bs.length ≤ 20000 := by omega
  clear hin hdat hlen hc hbs hd
  go_enter Tryz.func40, Tryz.ntmps40
  go_wp2_with fail
  refine (refOpen_any s w hs).mono ?_
  rintro e w1 ⟨hb1, ho, _⟩
  obtain ⟨g, v, rfl, hR⟩ := ho HC.out
  rw [HBS.out, HDD.out] at hR
  obtain ⟨vo, vcap, rfl⟩ := hR.row.form
  have HB1 : Hid (Below w.heap.size w w1) := hb1
  have HR : Hid (RFile w1 w.heap.size g s (.slice vo bs.length vcap) bs d) := hR
  have c1 := hR.cell 1
  simp at c1
  clear hb1 ho hR
  go_wp2_with fail
  go_loopw [7] (fun i wr => ∃ k q : Nat, k ≤ bs.length ∧ i = .int .i64 k ∧ wr = w1.drewN q) (fun i _ => bs.length - (intOf i).toNat)
  case atStart => exact ⟨0, 0, by omega, rfl, rfl⟩
  case round =>
    obtain ⟨k, q, hk, rfl, rfl⟩ := hrel
    by_cases hlt : k < bs.length
    · obtain ⟨g1, rfl⟩ : ∃ g1, vo = some ⟨g1, 0, none⟩ := by
        rcases HR.out.row.2 with ⟨_, h0⟩ | ⟨g1, cap, e, _⟩
        · omega
        · cases e; exact ⟨g1, rfl⟩
      have hins := HIN.out bs[k] (List.getElem_mem hlt)
      have hcell := HR.out.row.cellAt _ _ (cellsOf_pos bs k hlt)
      obtain ⟨P, hP⟩ : ∃ P, P = bs[k].pos := ⟨_, rfl⟩
      rw [← hP] at hcell
      unfold Sk.Inside at hins
      rw [← hP, HLN.out, num2] at hins
      clear hP
      have i3 := str_idx s (P + 3) ((P : Int) + 9 - 6) (by omega) (by omega)
      have i4 := str_idx s (P + 4) ((P : Int) + 9 - 5) (by omega) (by omega)
      have b3 := UInt8.toNat_lt (Sk.gt s.data.toList (P + 3))
      have b4 := UInt8.toNat_lt (Sk.gt s.data.toList (P + 4))
      obtain ⟨hP3, hPe⟩ := hins
      rw [show P + 3 + 1 = P + 4 by omega] at hPe
      generalize (Sk.gt s.data.toList (P + 3)).toNat = x at *
      generalize (Sk.gt s.data.toList (P + 4)).toNat = y at *
      have x1 : (x : Int) ≤ 255 := by omega
      have y1 : (y : Int) ≤ 255 := by omega
      clear b3 b4
      have j1 : (0 : Int) ≤ (P : Int) + 9 - 6 := by omega
      have j2 : (0 : Int) ≤ (P : Int) + 9 - 5 := by omega
      have j3 : (P : Int) + 9 - 6 < (s.size : Int) := by omega
      have j4 : (P : Int) + 9 - 5 < (s.size : Int) := by omega
      have hcase : (p : Int) < (P : Int) + 9 ∨ ((P : Int) + 9 ≤ p ∧ (P : Int) + 9 + x + 256 * y ≤ p) ∨ ((P : Int) + 9 ≤ p ∧ (p : Int) < (P : Int) + 9 + x + 256 * y) := by omega
      rcases hcase with a1 | ⟨a1, a2⟩ | ⟨a1, a2⟩
      · go_wp2_with fail
        go_quiet (fail)
        go_wp2_with fail
        go_roundw
        case rel => exact ⟨k + 1, _, by omega, by go_num, rfl⟩
        case measure => simp [intOf]; omega
      · go_wp2_with fail
        go_quiet (fail)
        go_wp2_with fail
        go_roundw
        case rel => exact ⟨k + 1, _, by omega, by go_num, rfl⟩
        case measure => simp [intOf]; omega
      · go_wp2_with fail
        go_quiet (fail)
        go_wp2_with fail
        go_loop [10, 11, 12] (fun a b i => ∃ z u v : Nat, P + 9 ≤ z ∧ z ≤ P + 9 + x + 256 * y ∧ i = .int .i64 z ∧ a = .int .i64 u ∧ b = .int .i64 v ∧ u < 65521 ∧ v < 65521) (fun _ _ i => P + 9 + x + 256 * y - (intOf i).toNat)
        case atStart => exact ⟨P + 9, 1, 0, by omega, by omega, by go_num, rfl, rfl, by omega, by omega⟩
        case round =>
          obtain ⟨z, u, v, hz1, hz2, rfl, rfl, rfl, hu, hv⟩ := hrel
          by_cases hzl : z < P + 9 + x + 256 * y
          · have iz := str_idx s z z rfl (by omega)
            have bz := UInt8.toNat_lt (Sk.gt s.data.toList z)
            generalize (Sk.gt s.data.toList z).toNat = cz at *
            go_wp2
            go_round
            case rel => exact ⟨z + 1, (u + cz) % 65521, (v + (u + cz) % 65521) % 65521, by omega, by omega, by go_num, by go_num, by go_num, Nat.mod_lt _ (by decide), Nat.mod_lt _ (by decide)⟩
            case measure => simp [intOf]; omega
          · have hcv : ∀ r : Nat, (convert 75 9 (.slice (some ⟨w1.heap.size, 0, none⟩) 4 4)).run Tryz.prog ((w1.drewN r).alloc (.cells #[.int .u8 ((u : Int) % 256), .int .u8 ((u : Int) / 256), .int .u8 ((v : Int) % 256), .int .u8 ((v : Int) / 256)] 5)) = _ := fun r => four_bytes (w1.drewN r) ((u : Int) % 256) ((u : Int) / 256) ((v : Int) % 256) ((v : Int) / 256) (by omega) (by omega) (by omega) (by omega)
            go_wp2_with fail
            refine (put_at s _ _ (P + 5) _ (by omega) hs (by show P + 5 + 4 ≤ s.size; omega)).mono ?_
            rintro e w2 ⟨t2, rfl, hsz, q2, rfl⟩
            have HT : Hid (t2.size = s.size) := hsz
            clear hsz
            go_wp2
            go_ret
            exact ⟨t2, rfl, HT.out, below_drewN ((below_drewN HB1.out _).alloc HB1.out.size _) _⟩
    · go_wp2
      go_ret
      exact ⟨s, rfl, rfl, below_drewN HB1.out q⟩

theorem sealed_any (s : ByteArray) (p : Nat) (w : World) (hs : s.size ≤ 1000000000000000) (hp : p < s.size) :
    Calls Tryz.prog 40 #[.string s, .int .i64 p] w fun e w' => ∃ u : ByteArray, e = .returned (.string u) ∧ u.size = s.size ∧ Below w.heap.size w w' := by
  by_cases hc : (Sk.openR s.data.toList).1 = 0
  · exact sealed_yes s p w hs hp hc
  · have HC : Hid ((Sk.openR s.data.toList).1 ≠ 0) := hc
    obtain ⟨c, hcc⟩ : ∃ c, c = (Sk.openR s.data.toList).1 := ⟨_, rfl⟩
    have HCC : Hid ((Sk.openR s.data.toList).1 = c) := hcc.symm
    clear hc hcc
    go_enter Tryz.func40, Tryz.ntmps40
    go_wp2_with fail
    refine (refOpen_any s w hs).mono ?_
    rintro e w1 ⟨hb1, _, ho⟩
    obtain rfl := ho HC.out
    rw [HCC.out]
    have HB1 : Hid (Below w.heap.size w w1) := hb1
    clear hb1 ho
    go_wp2
    go_ret
    exact ⟨s, rfl, rfl, HB1.out⟩
end Go.Proofs.YtafkpmjifgohcaaGreatDoor
