/- The law Chunked, walked: whatever the input (but for hurts without number), it returns true. -/
import Derived.Test.YtafkpmjifgohcaaDoorChunkeduptoPart28
import Derived.Test.YtafkpmjifgohcaaDoorChunkeduptoPart31
import Derived.Test.YtafkpmjifgohcaaDoorChunkeduptoPart33
import Derived.Test.YtafkpmjifgohcaaDoorChunkeduptoPart5
import Derived.Test.YtafkpmjifgohcaaDoorChunkeduptoPart9
namespace Go.Proofs.YtafkpmjifgohcaaDoor
open Go.RowKit

/-- The program's Open, by the four errors that it names. -/
theorem open_four (s : ByteArray) (A : Nat → Addr) (w : World) (hA : ∀ i, i < 4 → w.cell? ⟨gv i, 0, none⟩ = some (.iface 170 (.pointer (some (A i))))) (hs : s.size ≤ 1000000000000000) :
    Calls Tryd.prog 18 #[.string s] w fun e w' => Below w.heap.size w w' ∧
      ((Sk.openR s.data.toList).1 = 0 → ∃ g v, e = .returned (.tuple #[.pointer (some ⟨g, 0, none⟩), .nilIface]) ∧ PFile w' w.heap.size g s v (Sk.openR s.data.toList).2.1 (Sk.openR s.data.toList).2.2) ∧
      ((Sk.openR s.data.toList).1 ≠ 0 → ∃ x, e = .returned (.tuple #[.pointer none, .iface 170 (.pointer (some x))])) := by
  have hlen : s.data.toList.length = s.size := Array.length_toList
  unfold Sk.openR
  by_cases h1 : 65536 < s.size
  · rw [if_pos (by rw [hlen]; exact h1)]
    exact (open_big s (A 0) w (hA 0 (by decide)) h1 hs).mono fun e w' ⟨he, hb⟩ => ⟨hb, (fun h => by cases h), fun _ => ⟨_, he⟩⟩
  · rw [if_neg (by rw [hlen]; exact h1)]
    by_cases h2 : s.size < 3
    · rw [if_pos (.inl (by rw [hlen]; exact h2))]
      exact (open_other s (A 1) w (hA 1 (by decide)) (by omega) (fun W => litePrefix_short s W h2)).mono fun e w' ⟨he, hb⟩ => ⟨hb, (fun h => by cases h), fun _ => ⟨_, he⟩⟩
    · by_cases h3 : s.data.toList.take 3 = [83, 75, 49]
      · rw [if_neg (by rw [hlen]; rintro (h | h); exact h2 h; exact h h3), hlen]
        have hm : s.extract 0 3 = ⟨#[83, 75, 49]⟩ := by
          apply ByteArray.ext
          apply Array.ext'
          rw [ByteArray.data_extract]
          simpa using h3
        refine (open_index s (A 2) (A 3) w (by omega) (by omega) hm (hA 2 (by decide)) (hA 3 (by decide))).mono fun e w' ⟨hb, r0, r3, r4, rr⟩ => ⟨hb, r0, fun h => ?_⟩
        rcases rr with h' | h' | h'
        · exact absurd h' h
        · exact ⟨_, r3 h'⟩
        · exact ⟨_, r4 h'⟩
      · rw [if_pos (.inr h3)]
        exact (open_other s (A 1) w (hA 1 (by decide)) (by omega) (fun W => litePrefix_no s W (by omega) (by omega) (by rw [extract3]; exact h3))).mono fun e w' ⟨he, hb⟩ => ⟨hb, (fun h => by cases h), fun _ => ⟨_, he⟩⟩

def knownF : List UInt8 := [83, 75, 49, 1, 1, 0, 2, 0, 98, 0, 99, 0, 0, 97]
theorem known_open : Sk.openR knownF = (0, [⟨0, 1, 3, true⟩], 1) := by kernel_rfl

theorem pack_len {l f : List UInt8} {B E : Int} (h : packOut l B E = some f) : f.length ≤ 65536 := by
  unfold packOut at h
  split at h
  · split at h
    · next hl => cases h; exact hl
    · cases h
  · cases h

theorem known_good : Sk.Good (⟨#[83, 75, 49, 1, 1, 0, 2, 0, 98, 0, 99, 0, 0, 97]⟩ : ByteArray).data.toList [⟨0, 1, 3, true⟩] 1 := by
  have := Sk.openR_good knownF
  rw [known_open] at this
  exact this

theorem known_ref (w : World) : RFile ((w.alloc (.cells #[.int .i64 0, .int .i64 1, .int .i64 3, .bool true] 45)).alloc (.cells #[.string ⟨#[83, 75, 49, 1, 1, 0, 2, 0, 98, 0, 99, 0, 0, 97]⟩, .slice (some ⟨w.heap.size, 0, none⟩) 1 1, .int .i64 1] 67)) w.heap.size (w.heap.size + 1) ⟨#[83, 75, 49, 1, 1, 0, 2, 0, 98, 0, 99, 0, 0, 97]⟩ (.slice (some ⟨w.heap.size, 0, none⟩) 1 1) [⟨0, 1, 3, true⟩] 1 := by
  obtain ⟨w1, h1⟩ : ∃ w1, w1 = w.alloc (.cells #[.int .i64 0, .int .i64 1, .int .i64 3, .bool true] 45) := ⟨_, rfl⟩
  have z1 : w1.heap.size = w.heap.size + 1 := by rw [h1]; simp
  have b1 : w1.heap[w.heap.size]? = some (.cells #[.int .i64 0, .int .i64 1, .int .i64 3, .bool true] 45 (0, 0)) := by rw [h1]; exact heap_alloc_new w _
  rw [← h1]
  have b2 : (w1.alloc (.cells #[.string ⟨#[83, 75, 49, 1, 1, 0, 2, 0, 98, 0, 99, 0, 0, 97]⟩, .slice (some ⟨w.heap.size, 0, none⟩) 1 1, .int .i64 1] 67)).heap[w.heap.size]? = some (.cells #[.int .i64 0, .int .i64 1, .int .i64 3, .bool true] 45 (0, 0)) := (((Below.refl _ _).alloc (Nat.le_refl _) _).block w.heap.size (by omega)).trans b1
  have b3 := heap_alloc_new w1 (.cells #[.string ⟨#[83, 75, 49, 1, 1, 0, 2, 0, 98, 0, 99, 0, 0, 97]⟩, .slice (some ⟨w.heap.size, 0, none⟩) 1 1, .int .i64 1] 67)
  rw [z1] at b3
  refine ⟨b3, by omega, ⟨rfl, .inr ⟨w.heap.size, 1, rfl, Nat.le_refl _, by simp; omega, fun j hj => ?_, fun j _ => ?_, fun j hj => ?_⟩⟩, fun k hk => by cases hk; exact ⟨Nat.le_refl _, by show w.heap.size ≠ w.heap.size + 1; omega⟩⟩
  · have : j = 0 ∨ j = 1 ∨ j = 2 ∨ j = 3 := by omega
    rcases this with rfl | rfl | rfl | rfl <;> simp [World.cell?, b2]
  · simp [World.frozen?, b2]
  · have : j = 0 ∨ j = 1 ∨ j = 2 ∨ j = 3 := by
      have : j < 4 := hj
      omega
    rcases this with rfl | rfl | rfl | rfl <;> simp [World.cell?, b2, Sk.cellsOf, Sk.Blk.cells]

theorem HurtAt.low {w w' : World} {B b off i : Nat} {k0 k1 k2 k3 : Int} (h : HurtAt w b off i k0 k1 k2 k3) (hb : Below B w w') (hl : b < B) : HurtAt w' b off i k0 k1 k2 k3 :=
  ⟨(hb.cell (p := ⟨b, _, none⟩) hl).trans h.c0, (hb.cell (p := ⟨b, _, none⟩) hl).trans h.c1, (hb.cell (p := ⟨b, _, none⟩) hl).trans h.c2, (hb.cell (p := ⟨b, _, none⟩) hl).trans h.c3, h.f1, h.f2, h.f3⟩

theorem pickL_at (c z : Int) (n : Nat) (w : World) (hz : z = n) (hc : Fits c) (hn : 0 < n) (hn2 : n ≤ 1000000000000000) :
    Calls Tryd.prog 28 #[.int .i64 c, .int .i64 z] w fun e w' => ∃ k : Nat, k < n ∧ e = .returned (.int .i64 k) ∧ w' = w := by
  subst hz
  exact pick_any c n w hc hn hn2

def HurtsC (w : World) (lo : Option Addr) (n : Nat) : Prop := 0 < n → ∃ b off, lo = some ⟨b, off, none⟩ ∧ b < w.heap.size ∧ ∀ j, j < n → ∃ k0 k1 k2 k3, HurtAt w b off j k0 k1 k2 k3

set_option maxRecDepth 100000 in
set_option maxHeartbeats 4000000 in
theorem chunked_law (s : ByteArray) (bl ev fr mn : Int) (lo : Option Addr) (n cap : Nat) (A : Nat → Addr) (w : World) (hbl : Fits bl) (hev : Fits ev) (hfr : Fits fr) (hmn : Fits mn) (hn : n ≤ 9000000000000) (hH : HurtsC w lo n)
    (hE : ∀ i, i < 4 → w.cell? ⟨gv i, 0, none⟩ = some (.iface 170 (.pointer (some (A i))))) (hS : SentW w A w.heap.size) :
    Calls Tryd.prog 10 #[.string s, .int .i64 bl, .int .i64 ev, .slice lo n cap, .int .i64 fr, .int .i64 mn] w fun e w' => e = .returned (.bool true) ∧ Below w.heap.size w w' := by
  have HE : Hid (∀ W, Below w.heap.size w W → ∀ i, i < 4 → W.cell? ⟨gv i, 0, none⟩ = some (.iface 170 (.pointer (some (A i))))) := fun W hW i hi => (hW.cell (p := ⟨gv i, 0, none⟩) (cell_lt (hE i hi))).trans (hE i hi)
  have HS : Hid (∀ W, Below w.heap.size w W → SentW W A W.heap.size) := fun W hW => by
    have h := hS.below hW
    have hz := hW.size
    exact ⟨h.c5, h.c6, h.apart, h.p5, h.p6, Nat.le_trans h.l hz, Nat.lt_of_lt_of_le h.a5 hz, Nat.lt_of_lt_of_le h.a6 hz⟩
  have HH : Hid (HurtsC w lo n) := hH
  have HBL : Hid (Fits bl) := hbl
  have HEV : Hid (Fits ev) := hev
  have HFR : Hid (Fits fr) := hfr
  have HMN : Hid (Fits mn) := hmn
  clear hE hS hH hbl hev hfr hmn
  go_enter Tryd.func10, Tryd.ntmps10
  go_wp2_with fail
  refine (pick_any bl 40 w HBL.out (by decide) (by decide)).mono ?_
  rintro e w1 ⟨k1, hk1, rfl, hw1⟩
  rw [hw1]
  clear hw1 w1
  go_wp2_with fail
  refine (pick_any ev 5 w HEV.out (by decide) (by decide)).mono ?_
  rintro e w1 ⟨k2, hk2, rfl, hw1⟩
  rw [hw1]
  clear hw1 w1
  by_cases hbig : 2000 < s.size
  · have hsi : (2000 : Int) < (s.size : Int) := by omega
    have hsj : (2000 : Int) ≤ (s.size : Int) := by omega
    have hdz : (s.extract 0 2000).size = 2000 := by rw [ByteArray.size_extract]; omega
    go_wp2_with fail
    generalize s.extract 0 2000 = d0 at *
    refine (refPack_any d0 _ _ w).mono ?_
    rintro e w1 ⟨hb1, he⟩
    obtain ⟨X, c, rfl, hXz⟩ : ∃ (X : ByteArray) (c : Int), e = .returned (.tuple #[.string X, .int .i64 c]) ∧ X.size ≤ 65536 := by
      cases hp : packOut d0.data.toList ((1 : Int) + k1) ((1 : Int) + k2) with
      | none => rw [hp] at he; exact ⟨_, _, he, by decide⟩
      | some f => rw [hp] at he; exact ⟨_, _, he, by show f.toArray.size ≤ 65536; simpa using pack_len hp⟩
    have HB1 : Hid (Below w.heap.size w w1) := hb1
    clear hb1 he
    go_wp2_with fail
    refine (open_four ⟨#[83, 75, 49, 1, 1, 0, 2, 0, 98, 0, 99, 0, 0, 97]⟩ A w1 (HE.out w1 HB1.out) (by decide)).mono ?_
    rintro e w2 ⟨hb2, r0, _⟩
    rw [show (⟨#[83, 75, 49, 1, 1, 0, 2, 0, 98, 0, 99, 0, 0, 97]⟩ : ByteArray).data.toList = knownF from rfl, known_open] at r0
    obtain ⟨g, v, rfl, hp⟩ := r0 rfl
    have HB2 : Hid (Below w.heap.size w w2) := HB1.out.trans (hb2.mono HB1.out.size)
    have HP2 : Hid (PFile w2 w1.heap.size g ⟨#[83, 75, 49, 1, 1, 0, 2, 0, 98, 0, 99, 0, 0, 97]⟩ v [⟨0, 1, 3, true⟩] 1) := hp
    clear hb2 r0 hp
    go_wp2_with fail
    have HB3 : Hid (Below w2.heap.size w2 ((w2.alloc (.cells #[.int .i64 0, .int .i64 1, .int .i64 3, .bool true] 45)).alloc (.cells #[.string ⟨#[83, 75, 49, 1, 1, 0, 2, 0, 98, 0, 99, 0, 0, 97]⟩, .slice (some ⟨w2.heap.size, 0, none⟩) 1 1, .int .i64 1] 67))) := ((Below.refl _ _).alloc (Nat.le_refl _) _).alloc (by simp) _
    have HR3 : Hid (RFile ((w2.alloc (.cells #[.int .i64 0, .int .i64 1, .int .i64 3, .bool true] 45)).alloc (.cells #[.string ⟨#[83, 75, 49, 1, 1, 0, 2, 0, 98, 0, 99, 0, 0, 97]⟩, .slice (some ⟨w2.heap.size, 0, none⟩) 1 1, .int .i64 1] 67)) w2.heap.size (w2.heap.size + 1) ⟨#[83, 75, 49, 1, 1, 0, 2, 0, 98, 0, 99, 0, 0, 97]⟩ (.slice (some ⟨w2.heap.size, 0, none⟩) 1 1) [⟨0, 1, 3, true⟩] 1) := known_ref w2
    generalize ((w2.alloc (.cells #[.int .i64 0, .int .i64 1, .int .i64 3, .bool true] 45)).alloc (.cells #[.string ⟨#[83, 75, 49, 1, 1, 0, 2, 0, 98, 0, 99, 0, 0, 97]⟩, .slice (some ⟨w2.heap.size, 0, none⟩) 1 1, .int .i64 1] 67)) = w3 at *
    have HB3' : Hid (Below w.heap.size w w3) := HB2.out.trans (HB3.out.mono HB2.out.size)
    refine (follows_any w1.heap.size w2.heap.size g (w2.heap.size + 1) _ v _ _ 1 0 5 A w3 (HP2.out.below HB3.out) HR3.out known_good (by decide) (by decide) ⟨by decide, by decide⟩ (by decide) (by decide) (HS.out w3 HB3'.out)).mono ?_
    rintro e w4 ⟨rfl, hb4⟩
    have HB4 : Hid (Below w.heap.size w w4) := HB3'.out.trans (hb4.mono HB3'.out.size)
    clear hb4 HB3 HR3 HP2
    go_wp2_with fail
    have HHW : Hid (0 < n → ∃ b off, lo = some ⟨b, off, none⟩ ∧ ∀ j, j < n → ∃ k0 k1 k2 k3, HurtAt w4 b off j k0 k1 k2 k3) := fun h0 => by
      obtain ⟨b, off, e, hb, hj⟩ := HH.out h0
      exact ⟨b, off, e, fun j hjn => by
        obtain ⟨k0, k1, k2, k3, h⟩ := hj j hjn
        exact ⟨k0, k1, k2, k3, h.low HB4.out hb⟩⟩
    refine (hurt_any X lo n cap w4 (by omega) HHW.out).mono ?_
    rintro e w5 ⟨t, rfl, ht, hb5⟩
    have HB5 : Hid (Below w.heap.size w w5) := HB4.out.trans (hb5.mono HB4.out.size)
    have htz : t.size ≤ 1000000000000000 := by omega
    clear hb5 HHW ht
    go_wp2_with fail
    refine (open_four t A w5 (HE.out w5 HB5.out) htz).mono ?_
    rintro e w6 ⟨hb6, r0, r1⟩
    have HB6 : Hid (Below w.heap.size w w6) := HB5.out.trans (hb6.mono HB5.out.size)
    clear hb6
    have hG := Sk.openR_good t.data.toList
    have hDA := Sk.openR_data t.data.toList
    by_cases hop : (Sk.openR t.data.toList).1 = 0
    · obtain ⟨g2, v2, rfl, hp6⟩ := r0 hop
      have HP6 : Hid (PFile w6 w5.heap.size g2 t v2 (Sk.openR t.data.toList).2.1 (Sk.openR t.data.toList).2.2) := hp6
      have HG : Hid (Sk.Good t.data.toList (Sk.openR t.data.toList).2.1 (Sk.openR t.data.toList).2.2) := hG
      have HOP : Hid ((Sk.openR t.data.toList).1 = 0) := hop
      have HDA : Hid ((Sk.openR t.data.toList).2.2 ≤ 20000 ∧ (Sk.openR t.data.toList).2.1.length ≤ (Sk.openR t.data.toList).2.2) := hDA
      have HTS : Hid (t.size ≤ 65536) := by
        show t.size ≤ 65536
        rcases Nat.lt_or_ge 65536 t.size with c | c
        · exfalso
          unfold Sk.openR at hop
          rw [if_pos (by rw [show t.data.toList.length = t.size from Array.length_toList]; exact c)] at hop
          cases hop
        · exact c
      clear r0 r1 hG hop hDA hp6
      go_wp2_with fail
      refine (refOpen_any t w6 htz).mono ?_
      rintro e w7 ⟨hb7, r0, _⟩
      obtain ⟨ro, u, rfl, hr7⟩ := r0 HOP.out
      have HB7 : Hid (Below w.heap.size w w7) := HB6.out.trans (hb7.mono HB6.out.size)
      have HP7 : Hid (PFile w7 w5.heap.size g2 t v2 (Sk.openR t.data.toList).2.1 (Sk.openR t.data.toList).2.2) := HP6.out.below hb7
      have HR7 : Hid (RFile w7 w6.heap.size ro t u (Sk.openR t.data.toList).2.1 (Sk.openR t.data.toList).2.2) := hr7
      clear r0 hr7 hb7 HP6
      have hcase : ((d0.size : Int) + 5 < fr) ∨ (fr ≤ (d0.size : Int) + 5 ∧ fr < -5) ∨ (fr ≤ (d0.size : Int) + 5 ∧ -5 ≤ fr) := by omega
      rcases hcase with b1 | ⟨b1, b2⟩ | ⟨b1, b2⟩
      · skip
        go_wp2_with fail
        refine (pickL_at fr _ (d0.size + 10) w7 (by omega) HFR.out (by omega) (by omega)).mono ?_
        rintro e w8 ⟨k3, hk3, rfl, hw8⟩
        rw [hw8]
        clear hw8 w8
        go_wp2_with fail
        refine (pick_any mn 30 w7 HMN.out (by decide) (by decide)).mono ?_
        rintro e w8 ⟨k4, hk4, rfl, hw8⟩
        rw [hw8]
        clear hw8 w8
        go_wp2_with fail
        obtain ⟨mm, hmm, hmm2⟩ : ∃ mm : Nat, (1 : Int) + (k4 : Int) = (mm : Int) ∧ mm = 1 + k4 := ⟨1 + k4, by omega, rfl⟩
        rw [hmm]
        have hm1 : 1 ≤ mm := by omega
        have hm2 : mm ≤ 100000 := by omega
        clear hmm hmm2
        refine (follows_any w5.heap.size w6.heap.size g2 ro t v2 u _ _ ((k3 : Int) - 5) mm A w7 HP7.out HR7.out HG.out HTS.out (by have := HDA.out; omega) ⟨by omega, by omega⟩ (by omega) (by omega) (HS.out w7 HB7.out)).mono ?_
        rintro e w8 ⟨rfl, hb8⟩
        have HB8 : Hid (Below w7.heap.size w7 w8) := hb8
        have HB8' : Hid (Below w.heap.size w w8) := HB7.out.trans (hb8.mono HB7.out.size)
        clear hb8
        go_wp2_with fail
        refine (follows_any w5.heap.size w6.heap.size g2 ro t v2 u _ _ ((k3 : Int) - 5) 1000 A w8 (HP7.out.below HB8.out) (HR7.out.below HB8.out) HG.out HTS.out (by have := HDA.out; omega) ⟨by omega, by omega⟩ (by decide) (by decide) (HS.out w8 HB8'.out)).mono ?_
        rintro e w9 ⟨rfl, hb9⟩
        have HB9 : Hid (Below w.heap.size w w9) := HB8'.out.trans (hb9.mono HB8'.out.size)
        clear hb9
        go_wp2
        go_ret
        exact ⟨rfl, HB9.out⟩
      · skip
        go_wp2_with fail
        refine (pickL_at fr _ (d0.size + 10) w7 (by omega) HFR.out (by omega) (by omega)).mono ?_
        rintro e w8 ⟨k3, hk3, rfl, hw8⟩
        rw [hw8]
        clear hw8 w8
        go_wp2_with fail
        refine (pick_any mn 30 w7 HMN.out (by decide) (by decide)).mono ?_
        rintro e w8 ⟨k4, hk4, rfl, hw8⟩
        rw [hw8]
        clear hw8 w8
        go_wp2_with fail
        obtain ⟨mm, hmm, hmm2⟩ : ∃ mm : Nat, (1 : Int) + (k4 : Int) = (mm : Int) ∧ mm = 1 + k4 := ⟨1 + k4, by omega, rfl⟩
        rw [hmm]
        have hm1 : 1 ≤ mm := by omega
        have hm2 : mm ≤ 100000 := by omega
        clear hmm hmm2
        refine (follows_any w5.heap.size w6.heap.size g2 ro t v2 u _ _ ((k3 : Int) - 5) mm A w7 HP7.out HR7.out HG.out HTS.out (by have := HDA.out; omega) ⟨by omega, by omega⟩ (by omega) (by omega) (HS.out w7 HB7.out)).mono ?_
        rintro e w8 ⟨rfl, hb8⟩
        have HB8 : Hid (Below w7.heap.size w7 w8) := hb8
        have HB8' : Hid (Below w.heap.size w w8) := HB7.out.trans (hb8.mono HB7.out.size)
        clear hb8
        go_wp2_with fail
        refine (follows_any w5.heap.size w6.heap.size g2 ro t v2 u _ _ ((k3 : Int) - 5) 1000 A w8 (HP7.out.below HB8.out) (HR7.out.below HB8.out) HG.out HTS.out (by have := HDA.out; omega) ⟨by omega, by omega⟩ (by decide) (by decide) (HS.out w8 HB8'.out)).mono ?_
        rintro e w9 ⟨rfl, hb9⟩
        have HB9 : Hid (Below w.heap.size w w9) := HB8'.out.trans (hb9.mono HB8'.out.size)
        clear hb9
        go_wp2
        go_ret
        exact ⟨rfl, HB9.out⟩
      · skip
        go_wp2_with fail
        refine (pick_any mn 30 w7 HMN.out (by decide) (by decide)).mono ?_
        rintro e w8 ⟨k4, hk4, rfl, hw8⟩
        rw [hw8]
        clear hw8 w8
        go_wp2_with fail
        obtain ⟨mm, hmm, hmm2⟩ : ∃ mm : Nat, (1 : Int) + (k4 : Int) = (mm : Int) ∧ mm = 1 + k4 := ⟨1 + k4, by omega, rfl⟩
        rw [hmm]
        have hm1 : 1 ≤ mm := by omega
        have hm2 : mm ≤ 100000 := by omega
        clear hmm hmm2
        refine (follows_any w5.heap.size w6.heap.size g2 ro t v2 u _ _ fr mm A w7 HP7.out HR7.out HG.out HTS.out (by have := HDA.out; omega) HFR.out (by omega) (by omega) (HS.out w7 HB7.out)).mono ?_
        rintro e w8 ⟨rfl, hb8⟩
        have HB8 : Hid (Below w7.heap.size w7 w8) := hb8
        have HB8' : Hid (Below w.heap.size w w8) := HB7.out.trans (hb8.mono HB7.out.size)
        clear hb8
        go_wp2_with fail
        refine (follows_any w5.heap.size w6.heap.size g2 ro t v2 u _ _ fr 1000 A w8 (HP7.out.below HB8.out) (HR7.out.below HB8.out) HG.out HTS.out (by have := HDA.out; omega) HFR.out (by decide) (by decide) (HS.out w8 HB8'.out)).mono ?_
        rintro e w9 ⟨rfl, hb9⟩
        have HB9 : Hid (Below w.heap.size w w9) := HB8'.out.trans (hb9.mono HB8'.out.size)
        clear hb9
        go_wp2
        go_ret
        exact ⟨rfl, HB9.out⟩
    · obtain ⟨x, rfl⟩ := r1 hop
      have HOP : Hid ((Sk.openR t.data.toList).1 ≠ 0) := hop
      clear r0 r1 hG hop hDA
      go_wp2_with fail
      refine (refOpen_any t w6 htz).mono ?_
      rintro e w7 ⟨hb7, _, r1⟩
      obtain rfl := r1 HOP.out
      have HB7 : Hid (Below w.heap.size w w7) := HB6.out.trans (hb7.mono HB6.out.size)
      clear r1 hb7
      go_wp2
      go_ret
      exact ⟨rfl, HB7.out⟩
  · have hsi : (s.size : Int) ≤ 2000 := by omega
    go_wp2_with fail
    refine (refPack_any s _ _ w).mono ?_
    rintro e w1 ⟨hb1, he⟩
    obtain ⟨X, c, rfl, hXz⟩ : ∃ (X : ByteArray) (c : Int), e = .returned (.tuple #[.string X, .int .i64 c]) ∧ X.size ≤ 65536 := by
      cases hp : packOut s.data.toList ((1 : Int) + k1) ((1 : Int) + k2) with
      | none => rw [hp] at he; exact ⟨_, _, he, by decide⟩
      | some f => rw [hp] at he; exact ⟨_, _, he, by show f.toArray.size ≤ 65536; simpa using pack_len hp⟩
    have HB1 : Hid (Below w.heap.size w w1) := hb1
    clear hb1 he
    go_wp2_with fail
    refine (open_four ⟨#[83, 75, 49, 1, 1, 0, 2, 0, 98, 0, 99, 0, 0, 97]⟩ A w1 (HE.out w1 HB1.out) (by decide)).mono ?_
    rintro e w2 ⟨hb2, r0, _⟩
    rw [show (⟨#[83, 75, 49, 1, 1, 0, 2, 0, 98, 0, 99, 0, 0, 97]⟩ : ByteArray).data.toList = knownF from rfl, known_open] at r0
    obtain ⟨g, v, rfl, hp⟩ := r0 rfl
    have HB2 : Hid (Below w.heap.size w w2) := HB1.out.trans (hb2.mono HB1.out.size)
    have HP2 : Hid (PFile w2 w1.heap.size g ⟨#[83, 75, 49, 1, 1, 0, 2, 0, 98, 0, 99, 0, 0, 97]⟩ v [⟨0, 1, 3, true⟩] 1) := hp
    clear hb2 r0 hp
    go_wp2_with fail
    have HB3 : Hid (Below w2.heap.size w2 ((w2.alloc (.cells #[.int .i64 0, .int .i64 1, .int .i64 3, .bool true] 45)).alloc (.cells #[.string ⟨#[83, 75, 49, 1, 1, 0, 2, 0, 98, 0, 99, 0, 0, 97]⟩, .slice (some ⟨w2.heap.size, 0, none⟩) 1 1, .int .i64 1] 67))) := ((Below.refl _ _).alloc (Nat.le_refl _) _).alloc (by simp) _
    have HR3 : Hid (RFile ((w2.alloc (.cells #[.int .i64 0, .int .i64 1, .int .i64 3, .bool true] 45)).alloc (.cells #[.string ⟨#[83, 75, 49, 1, 1, 0, 2, 0, 98, 0, 99, 0, 0, 97]⟩, .slice (some ⟨w2.heap.size, 0, none⟩) 1 1, .int .i64 1] 67)) w2.heap.size (w2.heap.size + 1) ⟨#[83, 75, 49, 1, 1, 0, 2, 0, 98, 0, 99, 0, 0, 97]⟩ (.slice (some ⟨w2.heap.size, 0, none⟩) 1 1) [⟨0, 1, 3, true⟩] 1) := known_ref w2
    generalize ((w2.alloc (.cells #[.int .i64 0, .int .i64 1, .int .i64 3, .bool true] 45)).alloc (.cells #[.string ⟨#[83, 75, 49, 1, 1, 0, 2, 0, 98, 0, 99, 0, 0, 97]⟩, .slice (some ⟨w2.heap.size, 0, none⟩) 1 1, .int .i64 1] 67)) = w3 at *
    have HB3' : Hid (Below w.heap.size w w3) := HB2.out.trans (HB3.out.mono HB2.out.size)
    refine (follows_any w1.heap.size w2.heap.size g (w2.heap.size + 1) _ v _ _ 1 0 5 A w3 (HP2.out.below HB3.out) HR3.out known_good (by decide) (by decide) ⟨by decide, by decide⟩ (by decide) (by decide) (HS.out w3 HB3'.out)).mono ?_
    rintro e w4 ⟨rfl, hb4⟩
    have HB4 : Hid (Below w.heap.size w w4) := HB3'.out.trans (hb4.mono HB3'.out.size)
    clear hb4 HB3 HR3 HP2
    go_wp2_with fail
    have HHW : Hid (0 < n → ∃ b off, lo = some ⟨b, off, none⟩ ∧ ∀ j, j < n → ∃ k0 k1 k2 k3, HurtAt w4 b off j k0 k1 k2 k3) := fun h0 => by
      obtain ⟨b, off, e, hb, hj⟩ := HH.out h0
      exact ⟨b, off, e, fun j hjn => by
        obtain ⟨k0, k1, k2, k3, h⟩ := hj j hjn
        exact ⟨k0, k1, k2, k3, h.low HB4.out hb⟩⟩
    refine (hurt_any X lo n cap w4 (by omega) HHW.out).mono ?_
    rintro e w5 ⟨t, rfl, ht, hb5⟩
    have HB5 : Hid (Below w.heap.size w w5) := HB4.out.trans (hb5.mono HB4.out.size)
    have htz : t.size ≤ 1000000000000000 := by omega
    clear hb5 HHW ht
    go_wp2_with fail
    refine (open_four t A w5 (HE.out w5 HB5.out) htz).mono ?_
    rintro e w6 ⟨hb6, r0, r1⟩
    have HB6 : Hid (Below w.heap.size w w6) := HB5.out.trans (hb6.mono HB5.out.size)
    clear hb6
    have hG := Sk.openR_good t.data.toList
    have hDA := Sk.openR_data t.data.toList
    by_cases hop : (Sk.openR t.data.toList).1 = 0
    · obtain ⟨g2, v2, rfl, hp6⟩ := r0 hop
      have HP6 : Hid (PFile w6 w5.heap.size g2 t v2 (Sk.openR t.data.toList).2.1 (Sk.openR t.data.toList).2.2) := hp6
      have HG : Hid (Sk.Good t.data.toList (Sk.openR t.data.toList).2.1 (Sk.openR t.data.toList).2.2) := hG
      have HOP : Hid ((Sk.openR t.data.toList).1 = 0) := hop
      have HDA : Hid ((Sk.openR t.data.toList).2.2 ≤ 20000 ∧ (Sk.openR t.data.toList).2.1.length ≤ (Sk.openR t.data.toList).2.2) := hDA
      have HTS : Hid (t.size ≤ 65536) := by
        show t.size ≤ 65536
        rcases Nat.lt_or_ge 65536 t.size with c | c
        · exfalso
          unfold Sk.openR at hop
          rw [if_pos (by rw [show t.data.toList.length = t.size from Array.length_toList]; exact c)] at hop
          cases hop
        · exact c
      clear r0 r1 hG hop hDA hp6
      go_wp2_with fail
      refine (refOpen_any t w6 htz).mono ?_
      rintro e w7 ⟨hb7, r0, _⟩
      obtain ⟨ro, u, rfl, hr7⟩ := r0 HOP.out
      have HB7 : Hid (Below w.heap.size w w7) := HB6.out.trans (hb7.mono HB6.out.size)
      have HP7 : Hid (PFile w7 w5.heap.size g2 t v2 (Sk.openR t.data.toList).2.1 (Sk.openR t.data.toList).2.2) := HP6.out.below hb7
      have HR7 : Hid (RFile w7 w6.heap.size ro t u (Sk.openR t.data.toList).2.1 (Sk.openR t.data.toList).2.2) := hr7
      clear r0 hr7 hb7 HP6
      have hcase : ((s.size : Int) + 5 < fr) ∨ (fr ≤ (s.size : Int) + 5 ∧ fr < -5) ∨ (fr ≤ (s.size : Int) + 5 ∧ -5 ≤ fr) := by omega
      rcases hcase with b1 | ⟨b1, b2⟩ | ⟨b1, b2⟩
      · skip
        go_wp2_with fail
        refine (pickL_at fr _ (s.size + 10) w7 (by omega) HFR.out (by omega) (by omega)).mono ?_
        rintro e w8 ⟨k3, hk3, rfl, hw8⟩
        rw [hw8]
        clear hw8 w8
        go_wp2_with fail
        refine (pick_any mn 30 w7 HMN.out (by decide) (by decide)).mono ?_
        rintro e w8 ⟨k4, hk4, rfl, hw8⟩
        rw [hw8]
        clear hw8 w8
        go_wp2_with fail
        obtain ⟨mm, hmm, hmm2⟩ : ∃ mm : Nat, (1 : Int) + (k4 : Int) = (mm : Int) ∧ mm = 1 + k4 := ⟨1 + k4, by omega, rfl⟩
        rw [hmm]
        have hm1 : 1 ≤ mm := by omega
        have hm2 : mm ≤ 100000 := by omega
        clear hmm hmm2
        refine (follows_any w5.heap.size w6.heap.size g2 ro t v2 u _ _ ((k3 : Int) - 5) mm A w7 HP7.out HR7.out HG.out HTS.out (by have := HDA.out; omega) ⟨by omega, by omega⟩ (by omega) (by omega) (HS.out w7 HB7.out)).mono ?_
        rintro e w8 ⟨rfl, hb8⟩
        have HB8 : Hid (Below w7.heap.size w7 w8) := hb8
        have HB8' : Hid (Below w.heap.size w w8) := HB7.out.trans (hb8.mono HB7.out.size)
        clear hb8
        go_wp2_with fail
        refine (follows_any w5.heap.size w6.heap.size g2 ro t v2 u _ _ ((k3 : Int) - 5) 1000 A w8 (HP7.out.below HB8.out) (HR7.out.below HB8.out) HG.out HTS.out (by have := HDA.out; omega) ⟨by omega, by omega⟩ (by decide) (by decide) (HS.out w8 HB8'.out)).mono ?_
        rintro e w9 ⟨rfl, hb9⟩
        have HB9 : Hid (Below w.heap.size w w9) := HB8'.out.trans (hb9.mono HB8'.out.size)
        clear hb9
        go_wp2
        go_ret
        exact ⟨rfl, HB9.out⟩
      · skip
        go_wp2_with fail
        refine (pickL_at fr _ (s.size + 10) w7 (by omega) HFR.out (by omega) (by omega)).mono ?_
        rintro e w8 ⟨k3, hk3, rfl, hw8⟩
        rw [hw8]
        clear hw8 w8
        go_wp2_with fail
        refine (pick_any mn 30 w7 HMN.out (by decide) (by decide)).mono ?_
        rintro e w8 ⟨k4, hk4, rfl, hw8⟩
        rw [hw8]
        clear hw8 w8
        go_wp2_with fail
        obtain ⟨mm, hmm, hmm2⟩ : ∃ mm : Nat, (1 : Int) + (k4 : Int) = (mm : Int) ∧ mm = 1 + k4 := ⟨1 + k4, by omega, rfl⟩
        rw [hmm]
        have hm1 : 1 ≤ mm := by omega
        have hm2 : mm ≤ 100000 := by omega
        clear hmm hmm2
        refine (follows_any w5.heap.size w6.heap.size g2 ro t v2 u _ _ ((k3 : Int) - 5) mm A w7 HP7.out HR7.out HG.out HTS.out (by have := HDA.out; omega) ⟨by omega, by omega⟩ (by omega) (by omega) (HS.out w7 HB7.out)).mono ?_
        rintro e w8 ⟨rfl, hb8⟩
        have HB8 : Hid (Below w7.heap.size w7 w8) := hb8
        have HB8' : Hid (Below w.heap.size w w8) := HB7.out.trans (hb8.mono HB7.out.size)
        clear hb8
        go_wp2_with fail
        refine (follows_any w5.heap.size w6.heap.size g2 ro t v2 u _ _ ((k3 : Int) - 5) 1000 A w8 (HP7.out.below HB8.out) (HR7.out.below HB8.out) HG.out HTS.out (by have := HDA.out; omega) ⟨by omega, by omega⟩ (by decide) (by decide) (HS.out w8 HB8'.out)).mono ?_
        rintro e w9 ⟨rfl, hb9⟩
        have HB9 : Hid (Below w.heap.size w w9) := HB8'.out.trans (hb9.mono HB8'.out.size)
        clear hb9
        go_wp2
        go_ret
        exact ⟨rfl, HB9.out⟩
      · skip
        go_wp2_with fail
        refine (pick_any mn 30 w7 HMN.out (by decide) (by decide)).mono ?_
        rintro e w8 ⟨k4, hk4, rfl, hw8⟩
        rw [hw8]
        clear hw8 w8
        go_wp2_with fail
        obtain ⟨mm, hmm, hmm2⟩ : ∃ mm : Nat, (1 : Int) + (k4 : Int) = (mm : Int) ∧ mm = 1 + k4 := ⟨1 + k4, by omega, rfl⟩
        rw [hmm]
        have hm1 : 1 ≤ mm := by omega
        have hm2 : mm ≤ 100000 := by omega
        clear hmm hmm2
        refine (follows_any w5.heap.size w6.heap.size g2 ro t v2 u _ _ fr mm A w7 HP7.out HR7.out HG.out HTS.out (by have := HDA.out; omega) HFR.out (by omega) (by omega) (HS.out w7 HB7.out)).mono ?_
        rintro e w8 ⟨rfl, hb8⟩
        have HB8 : Hid (Below w7.heap.size w7 w8) := hb8
        have HB8' : Hid (Below w.heap.size w w8) := HB7.out.trans (hb8.mono HB7.out.size)
        clear hb8
        go_wp2_with fail
        refine (follows_any w5.heap.size w6.heap.size g2 ro t v2 u _ _ fr 1000 A w8 (HP7.out.below HB8.out) (HR7.out.below HB8.out) HG.out HTS.out (by have := HDA.out; omega) HFR.out (by decide) (by decide) (HS.out w8 HB8'.out)).mono ?_
        rintro e w9 ⟨rfl, hb9⟩
        have HB9 : Hid (Below w.heap.size w w9) := HB8'.out.trans (hb9.mono HB8'.out.size)
        clear hb9
        go_wp2
        go_ret
        exact ⟨rfl, HB9.out⟩
    · obtain ⟨x, rfl⟩ := r1 hop
      have HOP : Hid ((Sk.openR t.data.toList).1 ≠ 0) := hop
      clear r0 r1 hG hop hDA
      go_wp2_with fail
      refine (refOpen_any t w6 htz).mono ?_
      rintro e w7 ⟨hb7, _, r1⟩
      obtain rfl := r1 HOP.out
      have HB7 : Hid (Below w.heap.size w w7) := HB6.out.trans (hb7.mono HB6.out.size)
      clear r1 hb7
      go_wp2
      go_ret
      exact ⟨rfl, HB7.out⟩
end Go.Proofs.YtafkpmjifgohcaaDoor
