/- The program's Open, Size and Blocks against the document's. -/
import Derived.Test.YtafkpmjifgohcaaDoorFileOpenB
import Derived.Test.YtafkpmjifgohcaaDoorGv
import Derived.Test.YtafkpmjifgohcaaDoorSent
namespace Go.Proofs.YtafkpmjifgohcaaDoor
open Go.RowKit

/-- A file of the program's in memory. -/
structure PFile (w : World) (B g : Nat) (s : ByteArray) (v : Value) (bs : List Sk.Blk) (d : Nat) : Prop where
  blk : w.heap[g]? = some (.cells #[v, .int .i64 d, .string s] 41 (0, 0))
  low : B ≤ g
  row : Rw w 6 v bs.length (Sk.cellsE s.data.toList bs)
  rowLow : ∀ k, v.ownBlock = some k → B ≤ k ∧ k ≠ g

section
variable {w w' : World} {B g : Nat} {s : ByteArray} {v : Value} {bs : List Sk.Blk} {d : Nat}
theorem PFile.lt (h : PFile w B g s v bs d) : g < w.heap.size := by
  rcases Nat.lt_or_ge g w.heap.size with h' | h'
  · exact h'
  · have := h.blk; simp [Array.getElem?_eq_none h'] at this
theorem PFile.cell (h : PFile w B g s v bs d) (j : Nat) : w.cell? ⟨g, j, none⟩ = (#[v, .int .i64 d, .string s] : Array Value)[j]? := by
  simp [World.cell?, h.blk]
theorem PFile.kept (h : PFile w B g s v bs d) (hs : w.heap.size ≤ w'.heap.size) (h1 : w'.heap[g]? = w.heap[g]?) (h2 : ∀ k, v.ownBlock = some k → w'.heap[k]? = w.heap[k]?) : PFile w' B g s v bs d :=
  ⟨by rw [h1]; exact h.blk, h.low, h.row.kept hs h2, h.rowLow⟩
theorem PFile.below (h : PFile w B g s v bs d) (hb : Below w.heap.size w w') : PFile w' B g s v bs d :=
  h.kept hb.size (hb.block g h.lt) (fun k hk => hb.block k (h.row.lt k hk))
end

/-- The seven errors in their variables. -/
def Errs (w : World) (A : Nat → Addr) : Prop := ∀ i, i < 7 → w.cell? ⟨gv i, 0, none⟩ = some (.iface 170 (.pointer (some (A i))))
theorem Errs.lt {w : World} {A : Nat → Addr} (h : Errs w A) (i : Nat) (hi : i < 7) : gv i < w.heap.size := cell_lt (h i hi)
theorem Errs.below {w w' : World} {A : Nat → Addr} {B : Nat} (h : Errs w A) (hb : Below B w w') (hB : 7 ≤ B) : Errs w' A := fun i hi => (hb.cell (p := ⟨gv i, 0, none⟩) (by have := gv_lt i; show gv i < B; omega)).trans (h i hi)
theorem Errs.below' {w w' : World} {A : Nat → Addr} (h : Errs w A) (hb : Below w.heap.size w w') : Errs w' A := fun i hi => (hb.cell (p := ⟨gv i, 0, none⟩) (h.lt i hi)).trans (h i hi)

theorem errE (A : Nat → Addr) (n : Nat) (i : Nat) (h : i = n - 1) : Ending.returned (.tuple #[.pointer none, .iface 170 (.pointer (some (A i)))]) = Ending.returned (.tuple #[.pointer none, .iface 170 (.pointer (some (A (n - 1))))]) := by rw [h]

set_option maxHeartbeats 2000000 in
theorem open_big (s : ByteArray) (a0 : Addr) (w : World) (h0 : w.cell? ⟨0, 0, none⟩ = some (.iface 170 (.pointer (some a0)))) (h : 65536 < s.size) (hs : s.size ≤ 1000000000000000) :
    Calls Tryd.prog 18 #[.string s] w fun e w' => e = .returned (.tuple #[.pointer none, .iface 170 (.pointer (some a0))]) ∧ Below w.heap.size w w' := by
  have hi : (65536 : Int) < (s.size : Int) := by omega
  go_enter Tryd.func18, Tryd.ntmps18
  go_wp2_with fail
  go_quiet (fail)
  go_wp2
  go_ret2
  exact ⟨rfl, below_drewN (Below.refl _ _) _⟩

set_option maxHeartbeats 2000000 in
theorem open_other (s : ByteArray) (a1 : Addr) (w : World) (h1 : w.cell? ⟨1, 0, none⟩ = some (.iface 170 (.pointer (some a1)))) (hs : s.size ≤ 65536)
    (h : ∀ W, Calls Tryd.prog 57 #[.string s, .string ⟨#[83, 75, 49]⟩] W fun e w' => e = .returned (.bool false) ∧ w' = W) :
    Calls Tryd.prog 18 #[.string s] w fun e w' => e = .returned (.tuple #[.pointer none, .iface 170 (.pointer (some a1))]) ∧ Below w.heap.size w w' := by
  have hi : (s.size : Int) ≤ 65536 := by omega
  have HP : Hid (∀ W, Calls Tryd.prog 35 #[.string s, .string ⟨#[83, 75, 49]⟩] W fun e w' => e = .returned (.bool false) ∧ w' = W) := fun W => prefix_at s false W h
  clear h
  go_enter Tryd.func18, Tryd.ntmps18
  go_wp2_with fail
  refine (HP.out _).mono ?_
  rintro e w' ⟨rfl, hw⟩
  rw [hw]
  clear hw w'
  go_wp2_with fail
  go_quiet (fail)
  go_wp2
  go_ret2
  exact ⟨rfl, below_drewN (Below.refl _ _) _⟩

set_option maxRecDepth 100000 in
set_option maxHeartbeats 4000000 in
theorem open_index (s : ByteArray) (a2 a3 : Addr) (w : World) (hs : s.size ≤ 65536) (h3 : 3 ≤ s.size) (hm : s.extract 0 3 = ⟨#[83, 75, 49]⟩)
    (k2 : w.cell? ⟨2, 0, none⟩ = some (.iface 170 (.pointer (some a2)))) (k3 : w.cell? ⟨3, 0, none⟩ = some (.iface 170 (.pointer (some a3)))) :
    Calls Tryd.prog 18 #[.string s] w fun e w' => Below w.heap.size w w' ∧
      ((Sk.openN s.data.toList s.size 3 [] 0).1 = 0 → ∃ g v, e = .returned (.tuple #[.pointer (some ⟨g, 0, none⟩), .nilIface]) ∧ PFile w' w.heap.size g s v (Sk.openN s.data.toList s.size 3 [] 0).2.1 (Sk.openN s.data.toList s.size 3 [] 0).2.2) ∧
      ((Sk.openN s.data.toList s.size 3 [] 0).1 = 3 → e = .returned (.tuple #[.pointer none, .iface 170 (.pointer (some a2))])) ∧
      ((Sk.openN s.data.toList s.size 3 [] 0).1 = 4 → e = .returned (.tuple #[.pointer none, .iface 170 (.pointer (some a3))])) ∧
      ((Sk.openN s.data.toList s.size 3 [] 0).1 = 0 ∨ (Sk.openN s.data.toList s.size 3 [] 0).1 = 3 ∨ (Sk.openN s.data.toList s.size 3 [] 0).1 = 4) := by
  generalize hR : Sk.openN s.data.toList s.size 3 [] 0 = R
  have HR : Hid (Sk.openN s.data.toList s.size 3 [] 0 = R) := hR
  clear hR
  have hi : (s.size : Int) ≤ 65536 := by omega
  have HP : Hid (∀ W, Calls Tryd.prog 35 #[.string s, .string ⟨#[83, 75, 49]⟩] W fun e w' => e = .returned (.bool true) ∧ w' = W) := fun W => prefix_at s true W (fun W => litePrefix_yes s W h3 hs hm)
  go_enter Tryd.func18, Tryd.ntmps18
  go_wp2_with fail
  refine (HP.out _).mono ?_
  rintro e w' ⟨rfl, hw⟩
  rw [hw]
  clear hw w'
  go_wp2_with fail
  refine (readIndex_any s a2 a3 w hs h3 k2 k3).mono ?_
  rw [HR.out]
  rintro e w1 ⟨hb1, r0, r3, r4, rr⟩
  have HB1 : Hid (Below w.heap.size w w1) := hb1
  have HRR : Hid (R.1 = 0 ∨ R.1 = 3 ∨ R.1 = 4) := rr
  have hz1 : w.heap.size ≤ w1.heap.size := hb1.size
  clear hb1
  rcases rr with h | h | h
  · obtain ⟨v, rfl, hrow, hlow⟩ := r0 h
    obtain ⟨vo, vcap, rfl⟩ := hrow.form
    have HROW : Hid (Rw w1 6 (.slice vo R.2.1.length vcap) R.2.1.length (Sk.cellsE s.data.toList R.2.1)) := hrow
    have HLOW : Hid (∀ k, (Value.slice vo R.2.1.length vcap).ownBlock = some k → w.heap.size ≤ k) := hlow
    have H0 : Hid (R.1 = 0) := h
    clear r0 r3 r4 hrow hlow h
    obtain ⟨r, bs, d⟩ := R
    dsimp only at HROW HLOW H0 HRR ⊢
    have hs0 : 0 < s.size := by omega
    have hs6 : s.size ≤ 1000000 := by omega
    go_wp2_with fail
    go_region_with (go_at_call 37; refine (clone_any s _ hs6 hs0).mono ?_; rintro e w2 ⟨rfl, hb2⟩; have e0 : w2.cell? ⟨w1.heap.size, 0, none⟩ = some (.slice vo bs.length vcap) := (hb2.cell (p := ⟨w1.heap.size, 0, none⟩) (by simp)).trans (by simp); have e1 : w2.cell? ⟨w1.heap.size, 1, none⟩ = some (.int .i64 d) := (hb2.cell (p := ⟨w1.heap.size, 1, none⟩) (by simp)).trans (by simp); have HB2 : Hid (Below (w1.heap.size + 1) (w1.alloc (.cells #[.slice vo bs.length vcap, .int .i64 d] 39)).drew w2) := hb2.mono (by simp); clear hb2)
    all_goals
      go_wp2
      go_ret2
      have hb2 := HB2.out.size
      have hbA : Below w1.heap.size w1 w2 := (((Below.refl _ _).alloc (Nat.le_refl _) _).drew).trans (HB2.out.mono (by omega))
      have hbB : Below w1.heap.size w1 (w2.alloc (.cells #[.slice vo bs.length vcap, .int .i64 d, .string s] 41)) := hbA.alloc hbA.size _
      refine ⟨HB1.out.trans (hbB.mono hz1), fun _ => ⟨w2.heap.size, rfl, (.slice vo bs.length vcap : Value), ⟨?_, Nat.le_trans hz1 hbA.size, HROW.out.below hbB, fun k hk => ⟨HLOW.out k hk, ?_⟩⟩⟩, (fun h => by rw [H0.out] at h; cases h), (fun h => by rw [H0.out] at h; cases h), HRR.out⟩
      · show (w2.heap.push _)[w2.heap.size]? = _
        simp
      · have := HROW.out.lt k hk
        have := hbA.size
        omega
  · obtain rfl := r3 h
    have H0 : Hid (R.1 = 3) := h
    clear r0 r3 r4 h
    go_wp2
    go_ret2
    exact ⟨HB1.out.alloc hz1 _, (fun h => by rw [H0.out] at h; cases h), fun _ => rfl, (fun h => by rw [H0.out] at h; cases h), HRR.out⟩
  · obtain rfl := r4 h
    have H0 : Hid (R.1 = 4) := h
    clear r0 r3 r4 h
    go_wp2
    go_ret2
    exact ⟨HB1.out.alloc hz1 _, (fun h => by rw [H0.out] at h; cases h), (fun h => by rw [H0.out] at h; cases h), fun _ => rfl, HRR.out⟩

/-- What the program's Open answers. -/
theorem open_any (s : ByteArray) (A : Nat → Addr) (w : World) (hA : Errs w A) (hs : s.size ≤ 1000000000000000) :
    Calls Tryd.prog 18 #[.string s] w fun e w' => Below w.heap.size w w' ∧ (Sk.openR s.data.toList).1 ≤ 4 ∧
      ((Sk.openR s.data.toList).1 = 0 → ∃ g v, e = .returned (.tuple #[.pointer (some ⟨g, 0, none⟩), .nilIface]) ∧ PFile w' w.heap.size g s v (Sk.openR s.data.toList).2.1 (Sk.openR s.data.toList).2.2) ∧
      ((Sk.openR s.data.toList).1 ≠ 0 → e = .returned (.tuple #[.pointer none, .iface 170 (.pointer (some (A ((Sk.openR s.data.toList).1 - 1))))])) := by
  have hlen : s.data.toList.length = s.size := Array.length_toList
  unfold Sk.openR
  by_cases h1 : 65536 < s.size
  · rw [if_pos (by rw [hlen]; exact h1)]
    exact (open_big s (A 0) w (hA 0 (by decide)) h1 hs).mono fun e w' ⟨he, hb⟩ => ⟨hb, by decide, (fun h => by cases h), fun _ => he⟩
  · rw [if_neg (by rw [hlen]; exact h1)]
    by_cases h2 : s.size < 3
    · rw [if_pos (.inl (by rw [hlen]; exact h2))]
      exact (open_other s (A 1) w (hA 1 (by decide)) (by omega) (fun W => litePrefix_short s W h2)).mono fun e w' ⟨he, hb⟩ => ⟨hb, by decide, (fun h => by cases h), fun _ => he⟩
    · by_cases h3 : s.data.toList.take 3 = [83, 75, 49]
      · rw [if_neg (by rw [hlen]; rintro (h | h); exact h2 h; exact h h3), hlen]
        have hm : s.extract 0 3 = ⟨#[83, 75, 49]⟩ := by
          apply ByteArray.ext
          apply Array.ext'
          rw [ByteArray.data_extract]
          simpa using h3
        refine (open_index s (A 2) (A 3) w (by omega) (by omega) hm (hA 2 (by decide)) (hA 3 (by decide))).mono fun e w' ⟨hb, r0, r3, r4, rr⟩ => ⟨hb, by omega, r0, fun h => ?_⟩
        rcases rr with h' | h' | h'
        · exact absurd h' h
        · rw [h']; exact r3 h'
        · rw [h']; exact r4 h'
      · rw [if_pos (.inr h3)]
        exact (open_other s (A 1) w (hA 1 (by decide)) (by omega) (fun W => litePrefix_no s W (by omega) (by omega) (by rw [extract3]; exact h3))).mono fun e w' ⟨he, hb⟩ => ⟨hb, by decide, (fun h => by cases h), fun _ => he⟩

theorem size_any (w : World) (B g : Nat) (s : ByteArray) (v : Value) (bs : List Sk.Blk) (d : Nat) (h : PFile w B g s v bs d) :
    Calls Tryd.prog 19 #[.pointer (some ⟨g, 0, none⟩)] w fun e w' => e = .returned (.int .i64 d) ∧ w' = w := by
  have c1 := h.cell 1
  simp at c1
  clear h
  go_enter Tryd.func19, Tryd.ntmps19
  go_wp2
  go_ret
  exact ⟨rfl, rfl⟩

/-- One element is written, behind those that were. -/
theorem Rw.put {w : World} {sz n g cap k : Nat} {X xs ys : List Value} (hX : X.length = sz) (hxs : xs.length = k * sz) (h : Rw w sz (.slice (some ⟨g, 0, none⟩) n cap) n (xs ++ ys)) (hk : k < n) :
    Rw (w.setCells g (k * sz) X) sz (.slice (some ⟨g, 0, none⟩) n cap) n (xs ++ X ++ ys.drop sz) := by
  have hl := h.1
  rw [List.length_append, hxs] at hl
  have hm : (k + 1) * sz ≤ n * sz := Nat.mul_le_mul_right _ hk
  rw [Nat.succ_mul] at hm
  have hc := h.cell
  rcases h.2 with ⟨e, _⟩ | ⟨g', cap', e, h1, hg, h2, h3, h4⟩
  · cases e
  · cases e
    have hcap : n * sz ≤ cap * sz := Nat.mul_le_mul_right _ h1
    refine ⟨?_, .inr ⟨g, cap, rfl, h1, by rw [size_setCells]; exact hg, fun j hj => World.isSome_setCells _ _ _ _ _ (h2 j hj), fun j hj => by rw [World.frozen?_setCells]; exact h3 j hj, fun j hj => ?_⟩⟩
    · rw [List.length_append, List.length_append, hxs, hX, List.length_drop]; omega
    · have hj' : j < n * sz := by rw [List.length_append, List.length_append, hxs, hX, List.length_drop] at hj; omega
      by_cases c1 : j < k * sz
      · rw [World.cell?_setCells_out _ _ _ _ _ (fun _ _ => .inl c1), hc j (by rw [List.length_append, hxs]; omega)]
        congr 1
        rw [List.getElem_append_left (by rw [hxs]; exact c1), List.getElem_append_left (by rw [List.length_append, hxs]; omega), List.getElem_append_left (by rw [hxs]; exact c1)]
      · by_cases c2 : j < k * sz + sz
        · have := World.cell?_setCells_in g X (k * sz) w (fun i hi => h2 _ (by omega)) (j - k * sz) (by omega)
          rw [show k * sz + (j - k * sz) = j by omega] at this
          rw [this]
          congr 1
          rw [List.getElem_append_left (by rw [List.length_append, hxs, hX]; omega), List.getElem_append_right (by rw [hxs]; omega)]
          simp only [hxs]
        · rw [World.cell?_setCells_out _ _ _ _ _ (fun _ _ => .inr (by rw [hX]; show k * sz + sz ≤ j; omega)), hc j (by rw [List.length_append, hxs]; omega)]
          congr 1
          rw [List.getElem_append_right (by rw [hxs]; omega), List.getElem_append_right (by rw [List.length_append, hxs, hX]; omega)]
          rw [List.getElem_drop]
          simp only [List.length_append, hxs, hX]
          congr 1
          omega
end Go.Proofs.YtafkpmjifgohcaaDoor
