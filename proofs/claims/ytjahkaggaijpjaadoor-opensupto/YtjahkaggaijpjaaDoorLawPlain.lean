/- The law's own steps on Pack: each answers true, and leaves a world of the same form. -/
import Derived.Test.YtjahkaggaijpjaaDoorRefPack
import Derived.Test.YtjahkaggaijpjaaDoorNamesWalk
import Derived.Test.YtjahkaggaijpjaaDoorSent
namespace Go.Proofs.YtjahkaggaijpjaaDoor
open Go.RowKit

theorem plain_nil (w : World) : Calls Tryd.prog 65 #[.nilIface] w fun e w' => e = .returned (.int .i64 0) ∧ w' = w := by
  go_enter Tryd.func65, Tryd.ntmps65
  go_wp2
  go_ret
  exact ⟨rfl, rfl⟩

theorem plain_size (a : Addr) (w : World) (h : w.cell? ⟨0, 0, none⟩ = some (.iface 182 (.pointer (some a)))) :
    Calls Tryd.prog 65 #[.iface 182 (.pointer (some a))] w fun e w' => e = .returned (.int .i64 1) ∧ w' = w := by
  have hs := fun W : World => eq_same (W := W) a
  go_enter Tryd.func65, Tryd.ntmps65
  go_wp2
  go_ret
  exact ⟨rfl, rfl⟩

/-- The law's world: a text, and no files and lists yet. -/
structure Wd (w : World) (b : Nat) (t : ByteArray) : Prop where
  blk : w.heap[b]? = some (.cells #[.string t, .slice none 0 0, .slice none 0 0, .slice none 0 0, .slice none 0 0, .slice none 0 0, .int .i64 0] 69 (0, 0))

theorem Wd.lt {w : World} {b : Nat} {t : ByteArray} (h : Wd w b t) : b < w.heap.size := by
  rcases Nat.lt_or_ge b w.heap.size with h' | h'
  · exact h'
  · have := h.blk; simp [Array.getElem?_eq_none h'] at this
theorem Wd.cell {w : World} {b : Nat} {t : ByteArray} (h : Wd w b t) (j : Nat) : w.cell? ⟨b, j, none⟩ = (#[Value.string t, .slice none 0 0, .slice none 0 0, .slice none 0 0, .slice none 0 0, .slice none 0 0, .int .i64 0] : Array Value)[j]? := by
  simp [World.cell?, h.blk]
theorem Wd.free {w : World} {b : Nat} {t : ByteArray} (h : Wd w b t) (j : Nat) : w.frozen? ⟨b, j, none⟩ = false := by
  simp [World.frozen?, h.blk]
theorem Wd.below {w w' : World} {b : Nat} {t : ByteArray} (h : Wd w b t) (hb : Below w.heap.size w w') : Wd w' b t :=
  ⟨by rw [hb.block b h.lt]; exact h.blk⟩
theorem Wd.set {w : World} {b : Nat} {t : ByteArray} (h : Wd w b t) (u : ByteArray) : Wd (w.setCell ⟨b, 0, none⟩ (.string u)) b u := by
  refine ⟨?_⟩
  show (w.heap.modify b _)[b]? = _
  rw [Array.getElem?_modify, if_pos rfl, h.blk]
  rfl

/-- The cells of a step that was boxed, in a later world. -/
theorem box_cells {w w1 : World} {k0 k1 k2 k3 : Int} {s : ByteArray} {H : Value} (hb : Below (w.alloc (.cells #[.int .i64 k0, .int .i64 k1, .int .i64 k2, .int .i64 k3, .string s, H] 73)).heap.size (w.alloc (.cells #[.int .i64 k0, .int .i64 k1, .int .i64 k2, .int .i64 k3, .string s, H] 73)) w1) :
    w1.cell? ⟨w.heap.size, 2, none⟩ = some (.int .i64 k2) ∧ w1.cell? ⟨w.heap.size, 3, none⟩ = some (.int .i64 k3) ∧ w1.cell? ⟨w.heap.size, 4, none⟩ = some (.string s) := by
  refine ⟨?_, ?_, ?_⟩
  all_goals
    refine (hb.cell (p := ⟨w.heap.size, _, none⟩) (by simp)).trans ?_
    rw [World.cell?_alloc_new]
    rfl

set_option maxHeartbeats 800000 in
theorem packs_any (b : Nat) (t : ByteArray) (B : Nat) (k0 k1 k2 k3 : Int) (s : ByteArray) (H : Value) (a : Addr) (w : World) (hw : Wd w b t) (hB : B ≤ b) (hg : 0 < B) (ha : w.cell? ⟨0, 0, none⟩ = some (.iface 182 (.pointer (some a)))) :
    Calls Tryd.prog 43 #[.pointer (some ⟨b, 0, none⟩), .agg #[.int .i64 k0, .int .i64 k1, .int .i64 k2, .int .i64 k3, .string s, H]] w fun e w' => e = .returned (.bool true) ∧ Below B w w' ∧ ∃ u, Wd w' b u := by
  have HD : Hid (Wd w b t) := hw
  have hlt := hw.lt
  clear hw
  cases hp : packOut s.data.toList k2 k3 with
  | none =>
    have HP : Hid (packOut s.data.toList k2 k3 = none) := hp
    clear hp
    go_enter Tryd.func43, Tryd.ntmps43
    go_wp2_with fail
    refine (pack_any s k2 k3 a _ (cell?_alloc_old _ ha)).mono ?_
    rw [HP.out]
    rintro e w1 ⟨hb1, rfl⟩
    obtain ⟨c2, c3, c4⟩ := box_cells hb1
    have hs1 : w.heap.size < w1.heap.size := by have := hb1.size; simp at this; omega
    have ha1 := (hb1.cell (p := ⟨0, 0, none⟩) (Nat.lt_of_lt_of_le (show 0 < w.heap.size by omega) (by simp))).trans (cell?_alloc_old _ ha)
    have HB1 : Hid (Below w.heap.size w w1) := ((Below.refl _ _).alloc (Nat.le_refl _) _).trans (hb1.mono (by simp))
    clear hb1
    go_wp2_with fail
    refine (refPack_any s k2 k3 w1).mono ?_
    rw [HP.out]
    rintro e w2 ⟨hb2, rfl⟩
    have ha2 := (hb2.cell (p := ⟨0, 0, none⟩) (show 0 < w1.heap.size by omega)).trans ha1
    have HB2 : Hid (Below w.heap.size w w2) := HB1.out.trans (hb2.mono HB1.out.size)
    have HD2 : Hid (Wd w2 b t) := HD.out.below HB2.out
    clear hb2 c2 c3 c4
    go_wp2_with fail
    refine (plain_size a w2 ha2).mono ?_
    rintro e w3 ⟨rfl, rfl⟩
    go_wp2
    go_ret
    exact ⟨rfl, HB2.out.mono (by omega), t, HD2.out⟩
  | some f =>
    have HP : Hid (packOut s.data.toList k2 k3 = some f) := hp
    clear hp
    go_enter Tryd.func43, Tryd.ntmps43
    go_wp2_with fail
    refine (pack_any s k2 k3 a _ (cell?_alloc_old _ ha)).mono ?_
    rw [HP.out]
    rintro e w1 ⟨hb1, rfl⟩
    obtain ⟨c2, c3, c4⟩ := box_cells hb1
    have hs1 : w.heap.size < w1.heap.size := by have := hb1.size; simp at this; omega
    have ha1 := (hb1.cell (p := ⟨0, 0, none⟩) (Nat.lt_of_lt_of_le (show 0 < w.heap.size by omega) (by simp))).trans (cell?_alloc_old _ ha)
    have HB1 : Hid (Below w.heap.size w w1) := ((Below.refl _ _).alloc (Nat.le_refl _) _).trans (hb1.mono (by simp))
    clear hb1
    go_wp2_with fail
    refine (refPack_any s k2 k3 w1).mono ?_
    rw [HP.out]
    rintro e w2 ⟨hb2, rfl⟩
    have ha2 := (hb2.cell (p := ⟨0, 0, none⟩) (show 0 < w1.heap.size by omega)).trans ha1
    have HB2 : Hid (Below w.heap.size w w2) := HB1.out.trans (hb2.mono HB1.out.size)
    have HD2 : Hid (Wd w2 b t) := HD.out.below HB2.out
    clear hb2 c2 c3 c4
    have d0 := HD2.out.cell 0
    have f0 := HD2.out.free 0
    simp at d0
    go_wp2_with fail
    refine (plain_nil _).mono ?_
    rintro e w3 ⟨rfl, rfl⟩
    go_wp2
    go_ret
    refine ⟨rfl, ?_, ⟨f.toArray⟩, HD2.out.set _⟩
    exact (HB2.out.mono (by omega)).setCell hB _

theorem still_none (b : Nat) (t : ByteArray) (w : World) (hw : Wd w b t) :
    Calls Tryd.prog 31 #[.pointer (some ⟨b, 0, none⟩)] w fun e w' => e = .returned (.bool true) ∧ w' = w := by
  have d2 := hw.cell 2
  have d4 := hw.cell 4
  simp at d2 d4
  clear hw
  go_enter Tryd.func31, Tryd.ntmps31
  go_wp2
  refine wp_loop_rounds 1 ?_
  rw [rounds_succ]
  go_wp2
  refine wp_loop_rounds 1 ?_
  rw [rounds_succ]
  go_wp2
  go_ret
  exact ⟨rfl, rfl⟩

set_option maxHeartbeats 800000 in
theorem step_pack (b : Nat) (t : ByteArray) (B : Nat) (k0 k1 k2 k3 : Int) (s : ByteArray) (H : Value) (a : Addr) (w : World) (hw : Wd w b t) (hB : B ≤ b) (hg : 0 < B) (ha : w.cell? ⟨0, 0, none⟩ = some (.iface 182 (.pointer (some a)))) (hH : ∃ x n c, H = .slice x n c) (hk : k0 ≤ 1) :
    Calls Tryd.prog 30 #[.pointer (some ⟨b, 0, none⟩), .agg #[.int .i64 k0, .int .i64 k1, .int .i64 k2, .int .i64 k3, .string s, H]] w fun e w' => e = .returned (.bool true) ∧ Below B w w' ∧ ∃ u, Wd w' b u := by
  have HD : Hid (Wd w b t) := hw
  have hlt := hw.lt
  have d1 := hw.cell 1
  simp at d1
  clear hw
  obtain ⟨x, n, c, rfl⟩ := hH
  by_cases h1 : k0 = 1
  · subst h1
    go_enter Tryd.func30, Tryd.ntmps30
    go_wp2_with fail
    have HD1 : Hid (Wd (w.alloc (.cells #[.int .i64 1, .int .i64 k1, .int .i64 k2, .int .i64 k3, .string s, .slice x n c] 73)) b t) := HD.out.below ((Below.refl _ _).alloc (Nat.le_refl _) _)
    refine (packs_any b t B 1 k1 k2 k3 s (.slice x n c) a _ HD1.out hB hg (cell?_alloc_old _ ha)).mono ?_
    rintro e w1 ⟨rfl, hb, u, hu⟩
    go_wp2
    go_ret
    exact ⟨rfl, ((Below.refl _ _).alloc (by omega) _).trans hb, u, hu⟩
  · have e1 : (k0 == 1) = false := by simpa using h1
    have e2 : (k0 == 2) = false := by rw [beq_eq_false_iff_ne]; omega
    have d1' : (w.alloc (.cells #[.int .i64 k0, .int .i64 k1, .int .i64 k2, .int .i64 k3, .string s, .slice x n c] 73)).cell? ⟨b, 1, none⟩ = some (.slice none 0 0) := cell?_alloc_old _ d1
    go_enter Tryd.func30, Tryd.ntmps30
    go_wp2
    go_ret
    exact ⟨rfl, (Below.refl _ _).alloc (by omega) _, t, HD.out.below ((Below.refl _ _).alloc (Nat.le_refl _) _)⟩
end Go.Proofs.YtjahkaggaijpjaaDoor
