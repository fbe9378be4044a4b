/- The law's own steps on Pack: each answers true, and leaves a world of the same form.
The law Packs, walked: whatever the script, it returns true. -/
import Derived.Test.YtafkpmjifgohcaaGreatDoorAlluptoPart20
import Derived.Test.YtafkpmjifgohcaaGreatDoorEqAddr
import Derived.Test.YtafkpmjifgohcaaGreatDoorAlluptoPart7
namespace Go.Proofs.YtafkpmjifgohcaaGreatDoor
open Go.RowKit

theorem plain_nil (w : World) : Calls Tryz.prog 20 #[.nilIface] w fun e w' => e = .returned (.int .i64 0) ∧ w' = w := by
  go_enter Tryz.func20, Tryz.ntmps20
  go_wp2
  go_ret
  exact ⟨rfl, rfl⟩

theorem plain_size (a : Addr) (w : World) (h : w.cell? ⟨3, 0, none⟩ = some (.iface 175 (.pointer (some a)))) :
    Calls Tryz.prog 20 #[.iface 175 (.pointer (some a))] w fun e w' => e = .returned (.int .i64 1) ∧ w' = w := by
  have hs := fun W : World => eq_same (W := W) a
  go_enter Tryz.func20, Tryz.ntmps20
  go_wp2
  go_ret
  exact ⟨rfl, rfl⟩

/-- The law's world: a text, and no files and lists yet. -/
structure Wd (w : World) (b : Nat) (t : ByteArray) : Prop where
  blk : w.heap[b]? = some (.cells #[.string t, .slice none 0 0, .slice none 0 0, .slice none 0 0, .slice none 0 0, .slice none 0 0, .int .i64 0] 31 (0, 0))

theorem Wd.lt {w : World} {b : Nat} {t : ByteArray} (h : Wd w b t) : b < w.heap.size := by
  rcases Nat.lt_or_ge b w.heap.size with h' | h'
  · exact h'
  · have := h.blk; simp [Array.getElem?_eq_none h'] at this
theorem Wd.cell {w : World} {b : Nat} {t : ByteArray} (h : Wd w b t) (j : Nat) : w.cell? ⟨b, j, none⟩ = (#[Value.string t, .slice none 0 0, .slice none 0 0, .slice none 0 0, .slice none 0 0, .slice none 0 0, .int .i64 0] : Array Value)[j]? := by
  simp [World.cell?, h.blk]
theorem Wd.free {w : World} {b : Nat} {t : ByteArray} (h : Wd w b t) (j : Nat) : w.frozen? ⟨b, j, none⟩ = false := by
  simp [World.frozen?, h.blk]
theorem Wd.below {w w' : World} {b : Nat} {t : ByteArray} (h : Wd w b t) (hb : Below w.heap.size w w') : Wd w' b t :=
  ⟨by rw [hb.block b h.lt]; exact h.blk⟩
theorem Wd.set {w : World} {b : Nat} {t : ByteArray} (h : Wd w b t) (u : ByteArray) : Wd (w.setCell ⟨b, 0, none⟩ (.string u)) b u := by
  refine ⟨?_⟩
  show (w.heap.modify b _)[b]? = _
  rw [Array.getElem?_modify, if_pos rfl, h.blk]
  rfl

/-- The cells of a step that was boxed, in a later world. -/
theorem box_cells {w w1 : World} {k0 k1 k2 k3 : Int} {s : ByteArray} {H : Value} (hb : Below (w.alloc (.cells #[.int .i64 k0, .int .i64 k1, .int .i64 k2, .int .i64 k3, .string s, H] 35)).heap.size (w.alloc (.cells #[.int .i64 k0, .int .i64 k1, .int .i64 k2, .int .i64 k3, .string s, H] 35)) w1) :
    w1.cell? ⟨w.heap.size, 2, none⟩ = some (.int .i64 k2) ∧ w1.cell? ⟨w.heap.size, 3, none⟩ = some (.int .i64 k3) ∧ w1.cell? ⟨w.heap.size, 4, none⟩ = some (.string s) := by
  refine ⟨?_, ?_, ?_⟩
  all_goals
    refine (hb.cell (p := ⟨w.heap.size, _, none⟩) (by simp)).trans ?_
    rw [World.cell?_alloc_new]
    rfl

set_option maxHeartbeats 800000 in
theorem packs_any (b : Nat) (t : ByteArray) (B : Nat) (k0 k1 k2 k3 : Int) (s : ByteArray) (H : Value) (a : Addr) (w : World) (hw : Wd w b t) (hB : B ≤ b) (hg : 3 < B) (ha : w.cell? ⟨3, 0, none⟩ = some (.iface 175 (.pointer (some a)))) :
    Calls Tryz.prog 9 #[.pointer (some ⟨b, 0, none⟩), .agg #[.int .i64 k0, .int .i64 k1, .int .i64 k2, .int .i64 k3, .string s, H]] w fun e w' => e = .returned (.bool true) ∧ Below B w w' ∧ ∃ u, Wd w' b u := by
  have HD : Hid (Wd w b t) := hw
  have hlt := hw.lt
  clear hw
  cases hp : packOut s.data.toList k2 k3 with
  | none =>
    have HP : Hid (packOut s.data.toList k2 k3 = none) := hp
    clear hp
    go_enter Tryz.func9, Tryz.ntmps9
    go_wp2_with fail
    refine (pack_any s k2 k3 a _ (cell?_alloc_old _ ha)).mono ?_
    rw [HP.out]
    rintro e w1 ⟨hb1, rfl⟩
    obtain ⟨c2, c3, c4⟩ := box_cells hb1
    have hs1 : w.heap.size < w1.heap.size := by have := hb1.size; simp at this; omega
    have ha1 := (hb1.cell (p := ⟨3, 0, none⟩) (Nat.lt_of_lt_of_le (show 3 < w.heap.size by omega) (by simp))).trans (cell?_alloc_old _ ha)
    have HB1 : Hid (Below w.heap.size w w1) := ((Below.refl _ _).alloc (Nat.le_refl _) _).trans (hb1.mono (by simp))
    clear hb1
    go_wp2_with fail
    refine (refPack_any s k2 k3 w1).mono ?_
    rw [HP.out]
    rintro e w2 ⟨hb2, rfl⟩
    have ha2 := (hb2.cell (p := ⟨3, 0, none⟩) (show 3 < w1.heap.size by omega)).trans ha1
    have HB2 : Hid (Below w.heap.size w w2) := HB1.out.trans (hb2.mono HB1.out.size)
    have HD2 : Hid (Wd w2 b t) := HD.out.below HB2.out
    clear hb2 c2 c3 c4
    go_wp2_with fail
    refine (plain_size a w2 ha2).mono ?_
    rintro e w3 ⟨rfl, rfl⟩
    go_wp2
    go_ret
    exact ⟨rfl, HB2.out.mono (by omega), t, HD2.out⟩
  | some f =>
    have HP : Hid (packOut s.data.toList k2 k3 = some f) := hp
    clear hp
    go_enter Tryz.func9, Tryz.ntmps9
    go_wp2_with fail
    refine (pack_any s k2 k3 a _ (cell?_alloc_old _ ha)).mono ?_
    rw [HP.out]
    rintro e w1 ⟨hb1, rfl⟩
    obtain ⟨c2, c3, c4⟩ := box_cells hb1
    have hs1 : w.heap.size < w1.heap.size := by have := hb1.size; simp at this; omega
    have ha1 := (hb1.cell (p := ⟨3, 0, none⟩) (Nat.lt_of_lt_of_le (show 3 < w.heap.size by omega) (by simp))).trans (cell?_alloc_old _ ha)
    have HB1 : Hid (Below w.heap.size w w1) := ((Below.refl _ _).alloc (Nat.le_refl _) _).trans (hb1.mono (by simp))
    clear hb1
    go_wp2_with fail
    refine (refPack_any s k2 k3 w1).mono ?_
    rw [HP.out]
    rintro e w2 ⟨hb2, rfl⟩
    have ha2 := (hb2.cell (p := ⟨3, 0, none⟩) (show 3 < w1.heap.size by omega)).trans ha1
    have HB2 : Hid (Below w.heap.size w w2) := HB1.out.trans (hb2.mono HB1.out.size)
    have HD2 : Hid (Wd w2 b t) := HD.out.below HB2.out
    clear hb2 c2 c3 c4
    have d0 := HD2.out.cell 0
    have f0 := HD2.out.free 0
    simp at d0
    go_wp2_with fail
    refine (plain_nil _).mono ?_
    rintro e w3 ⟨rfl, rfl⟩
    go_wp2
    go_ret
    refine ⟨rfl, ?_, ⟨f.toArray⟩, HD2.out.set _⟩
    exact (HB2.out.mono (by omega)).setCell hB _

theorem still_none (b : Nat) (t : ByteArray) (w : World) (hw : Wd w b t) :
    Calls Tryz.prog 8 #[.pointer (some ⟨b, 0, none⟩)] w fun e w' => e = .returned (.bool true) ∧ w' = w := by
  have d2 := hw.cell 2
  have d4 := hw.cell 4
  simp at d2 d4
  clear hw
  go_enter Tryz.func8, Tryz.ntmps8
  go_wp2
  refine wp_loop_rounds 1 ?_
  rw [rounds_succ]
  go_wp2
  refine wp_loop_rounds 1 ?_
  rw [rounds_succ]
  go_wp2
  go_ret
  exact ⟨rfl, rfl⟩

set_option maxHeartbeats 800000 in
theorem step_pack (b : Nat) (t : ByteArray) (B : Nat) (k0 k1 k2 k3 : Int) (s : ByteArray) (H : Value) (a : Addr) (w : World) (hw : Wd w b t) (hB : B ≤ b) (hg : 3 < B) (ha : w.cell? ⟨3, 0, none⟩ = some (.iface 175 (.pointer (some a)))) (hH : ∃ x n c, H = .slice x n c) (hk : k0 ≤ 1) :
    Calls Tryz.prog 7 #[.pointer (some ⟨b, 0, none⟩), .agg #[.int .i64 k0, .int .i64 k1, .int .i64 k2, .int .i64 k3, .string s, H]] w fun e w' => e = .returned (.bool true) ∧ Below B w w' ∧ ∃ u, Wd w' b u := by
  have HD : Hid (Wd w b t) := hw
  have hlt := hw.lt
  have d1 := hw.cell 1
  simp at d1
  clear hw
  obtain ⟨x, n, c, rfl⟩ := hH
  by_cases h1 : k0 = 1
  · subst h1
    go_enter Tryz.func7, Tryz.ntmps7
    go_wp2_with fail
    have HD1 : Hid (Wd (w.alloc (.cells #[.int .i64 1, .int .i64 k1, .int .i64 k2, .int .i64 k3, .string s, .slice x n c] 35)) b t) := HD.out.below ((Below.refl _ _).alloc (Nat.le_refl _) _)
    refine (packs_any b t B 1 k1 k2 k3 s (.slice x n c) a _ HD1.out hB hg (cell?_alloc_old _ ha)).mono ?_
    rintro e w1 ⟨rfl, hb, u, hu⟩
    go_wp2
    go_ret
    exact ⟨rfl, ((Below.refl _ _).alloc (by omega) _).trans hb, u, hu⟩
  · have e1 : (k0 == 1) = false := by simpa using h1
    have e2 : (k0 == 2) = false := by rw [beq_eq_false_iff_ne]; omega
    have d1' : (w.alloc (.cells #[.int .i64 k0, .int .i64 k1, .int .i64 k2, .int .i64 k3, .string s, .slice x n c] 35)).cell? ⟨b, 1, none⟩ = some (.slice none 0 0) := cell?_alloc_old _ d1
    go_enter Tryz.func7, Tryz.ntmps7
    go_wp2
    go_ret
    exact ⟨rfl, (Below.refl _ _).alloc (by omega) _, t, HD.out.below ((Below.refl _ _).alloc (Nat.le_refl _) _)⟩
end Go.Proofs.YtafkpmjifgohcaaGreatDoor

namespace Go.Proofs.YtafkpmjifgohcaaGreatDoor
open Go.RowKit

/-- What a script's steps hold, by their places. -/
structure OpAt (w : World) (b off i : Nat) (k0 k1 k2 k3 : Int) (s : ByteArray) (x : Option Addr) (n c : Nat) : Prop where
  c0 : w.cell? ⟨b, off + i * 6, none⟩ = some (.int .i64 k0)
  c1 : w.cell? ⟨b, off + i * 6 + 1, none⟩ = some (.int .i64 k1)
  c2 : w.cell? ⟨b, off + i * 6 + 2, none⟩ = some (.int .i64 k2)
  c3 : w.cell? ⟨b, off + i * 6 + 3, none⟩ = some (.int .i64 k3)
  c4 : w.cell? ⟨b, off + i * 6 + 4, none⟩ = some (.string s)
  c5 : w.cell? ⟨b, off + i * 6 + 5, none⟩ = some (.slice x n c)

abbrev abcS : ByteArray := { data := #[97, 98, 99, 97, 98, 99, 97, 98, 99, 97, 98, 99] }

theorem wd_new (w : World) : Wd (w.alloc (.cells #[.string ⟨#[]⟩, .slice none 0 0, .slice none 0 0, .slice none 0 0, .slice none 0 0, .slice none 0 0, .int .i64 0] 31)) w.heap.size ⟨#[]⟩ := by
  refine ⟨?_⟩
  show (w.heap.push _)[w.heap.size]? = _
  simp

set_option maxHeartbeats 1000000 in
theorem played_packs (b off len cap : Nat) (a : Addr) (w : World) (hlen : len ≤ 10000000000000) (ha : w.cell? ⟨3, 0, none⟩ = some (.iface 175 (.pointer (some a))))
    (hel : ∀ i, i < len → ∃ k0 k1 k2 k3 s x n c, OpAt w b off i k0 k1 k2 k3 s x n c) :
    Calls Tryz.prog 6 #[.slice (some ⟨b, off, none⟩) len cap, .int .i64 1] w fun e w' => e = .returned (.bool true) ∧ Below w.heap.size w w' := by
  have HE : Hid (∀ i, i < len → ∃ k0 k1 k2 k3 s x n c, OpAt w b off i k0 k1 k2 k3 s x n c) := hel
  clear hel
  have hlt : 3 < w.heap.size := by
    rcases Nat.lt_or_ge 3 w.heap.size with h | h
    · exact h
    · simp [World.cell?, Array.getElem?_eq_none h] at ha
  go_enter Tryz.func6, Tryz.ntmps6
  go_wp2_with fail
  refine (step_pack w.heap.size ⟨#[]⟩ w.heap.size 1 0 6 2 abcS (.slice none 0 0) a _ (wd_new w) (Nat.le_refl _) hlt (cell?_alloc_old _ ha) ⟨none, 0, 0, rfl⟩ (by decide)).mono ?_
  rintro e w1 ⟨rfl, hb1, t1, hw1⟩
  have HB1 : Hid (Below w.heap.size w w1) := ((Below.refl _ _).alloc (Nat.le_refl _) _).trans hb1
  have HW1 : Hid (Wd w1 w.heap.size t1) := hw1
  clear hb1 hw1
  go_wp2_with fail
  refine wp_loop_rounds 1 ?_
  rw [rounds_succ]
  go_wp2_with fail
  go_loopw [6, 8] (fun o i wr => ∃ k : Nat, k ≤ len ∧ o = .bool true ∧ i = .int .i64 k ∧ Below w.heap.size w wr ∧ ∃ t, Wd wr w.heap.size t) (fun _ i _ => len - (intOf i).toNat)
  case atStart => exact ⟨0, by omega, rfl, rfl, HB1.out, t1, HW1.out⟩
  case round =>
    obtain ⟨k, hk, rfl, rfl, hb, t, hw⟩ := hrel
    have HB : Hid (Below w.heap.size w wr) := hb
    have HW : Hid (Wd wr w.heap.size t) := hw
    clear hb hw HB1 HW1
    by_cases hlk : k < len
    · obtain ⟨k0, k1, k2, k3, s, x, n, c, hop⟩ := HE.out k hlk
      have hbl : b < w.heap.size := by
        rcases Nat.lt_or_ge b w.heap.size with h | h
        · exact h
        · have := hop.c0; simp [World.cell?, Array.getElem?_eq_none h] at this
      have carry : ∀ j v, w.cell? ⟨b, j, none⟩ = some v → wr.cell? ⟨b, j, none⟩ = some v := fun j v h => (HB.out.cell (p := ⟨b, j, none⟩) hbl).trans h
      have e0 := carry _ _ hop.c0
      have e1 := carry _ _ hop.c1
      have e2 := carry _ _ hop.c2
      have e3 := carry _ _ hop.c3
      have e4 := carry _ _ hop.c4
      have e5 := carry _ _ hop.c5
      have ha' := (HB.out.cell (p := ⟨3, 0, none⟩) hlt).trans ha
      clear carry hop ha
      by_cases h1 : k0 ≤ 1
      · go_wp2_with fail
        refine (step_pack w.heap.size t w.heap.size k0 k1 k2 k3 s (.slice x n c) a wr HW.out (Nat.le_refl _) hlt ha' ⟨x, n, c, rfl⟩ h1).mono ?_
        rintro e w2 ⟨rfl, hb2, t2, hw2⟩
        have HB2 : Hid (Below w.heap.size w w2) := HB.out.trans hb2
        have HW2 : Hid (Wd w2 w.heap.size t2) := hw2
        clear hb2 hw2 e0 e1 e2 e3 e4 e5 ha'
        go_wp2_with fail
        refine (still_none w.heap.size t2 w2 HW2.out).mono ?_
        rintro e w3 ⟨rfl, rfl⟩
        go_wp2
        go_roundw
        case rel => exact ⟨k + 1, by omega, rfl, by go_num, HB2.out, t2, HW2.out⟩
        case measure => simp [intOf]; omega
      · have h1' : 1 < k0 := by omega
        go_wp2
        go_roundw
        case rel => exact ⟨k + 1, by omega, rfl, by go_num, HB.out, t, HW.out⟩
        case measure => simp [intOf]; omega
    · go_wp2
      go_ret
      exact ⟨rfl, HB.out⟩

set_option maxHeartbeats 1000000 in
theorem played_none (ao : Option Addr) (cap : Nat) (a : Addr) (w : World) (ha : w.cell? ⟨3, 0, none⟩ = some (.iface 175 (.pointer (some a)))) :
    Calls Tryz.prog 6 #[.slice ao 0 cap, .int .i64 1] w fun e w' => e = .returned (.bool true) ∧ Below w.heap.size w w' := by
  have hlt : 3 < w.heap.size := by
    rcases Nat.lt_or_ge 3 w.heap.size with h | h
    · exact h
    · simp [World.cell?, Array.getElem?_eq_none h] at ha
  go_enter Tryz.func6, Tryz.ntmps6
  go_wp2_with fail
  refine (step_pack w.heap.size ⟨#[]⟩ w.heap.size 1 0 6 2 abcS (.slice none 0 0) a _ (wd_new w) (Nat.le_refl _) hlt (cell?_alloc_old _ ha) ⟨none, 0, 0, rfl⟩ (by decide)).mono ?_
  rintro e w1 ⟨rfl, hb1, t1, hw1⟩
  have HB1 : Hid (Below w.heap.size w w1) := ((Below.refl _ _).alloc (Nat.le_refl _) _).trans hb1
  clear hb1 hw1
  go_wp2_with fail
  refine wp_loop_rounds 1 ?_
  rw [rounds_succ]
  go_wp2_with fail
  refine wp_loop_rounds 1 ?_
  rw [rounds_succ]
  go_wp2
  go_ret
  exact ⟨rfl, HB1.out⟩

/-- The law itself: its script's steps lie in memory, or there are none. -/
theorem packs_law (ao : Option Addr) (len cap : Nat) (a : Addr) (w : World) (hlen : len ≤ 10000000000000) (ha : w.cell? ⟨3, 0, none⟩ = some (.iface 175 (.pointer (some a))))
    (hel : 0 < len → ∃ b off, ao = some ⟨b, off, none⟩ ∧ ∀ i, i < len → ∃ k0 k1 k2 k3 s x n c, OpAt w b off i k0 k1 k2 k3 s x n c) :
    Calls Tryz.prog 3 #[.slice ao len cap] w fun e w' => e = .returned (.bool true) ∧ Below w.heap.size w w' := by
  by_cases h0 : 0 < len
  · obtain ⟨b, off, rfl, hop⟩ := hel h0
    have HO : Hid (∀ i, i < len → ∃ k0 k1 k2 k3 s x n c, OpAt w b off i k0 k1 k2 k3 s x n c) := hop
    clear hop hel
    go_enter Tryz.func3, Tryz.ntmps3
    go_wp2_with fail
    refine (played_packs b off len cap a w hlen ha HO.out).mono ?_
    rintro e w1 ⟨rfl, hb⟩
    go_wp2
    go_ret
    exact ⟨rfl, hb⟩
  · obtain rfl : len = 0 := by omega
    clear hel
    go_enter Tryz.func3, Tryz.ntmps3
    go_wp2_with fail
    refine (played_none ao cap a w ha).mono ?_
    rintro e w1 ⟨rfl, hb⟩
    go_wp2
    go_ret
    exact ⟨rfl, hb⟩
end Go.Proofs.YtafkpmjifgohcaaGreatDoor
