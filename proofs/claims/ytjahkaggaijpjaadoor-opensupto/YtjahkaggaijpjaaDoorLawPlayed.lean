/- The law's own play of a script, given its steps. -/
import Derived.Test.YtjahkaggaijpjaaDoorLawSteps
import Derived.Test.YtjahkaggaijpjaaDoorLawPacks
namespace Go.Proofs.YtjahkaggaijpjaaDoor
open Go.RowKit

/-- The steps up to the kind L answer true, and leave a world of the same form. -/
def StepsTo (L : Int) : Prop := ∀ (B b c : Nat) (A : Nat → Addr) (k0 k1 k2 k3 : Int) (s : ByteArray) (lo : Option Addr) (n cap : Nat) (w : World), WKS w B b c → SentB w A B → s.size ≤ 1000000000000000 → n ≤ 9000000000000 → Hurts w lo n → Fits k1 → Fits k2 → Fits k3 → c + 2 ≤ 200000000 → k0 ≤ L →
    Calls Tryd.prog 30 #[.pointer (some ⟨b, 0, none⟩), .agg #[.int .i64 k0, .int .i64 k1, .int .i64 k2, .int .i64 k3, .string s, .slice lo n cap]] w fun e w' => e = .returned (.bool true) ∧ Below B w w' ∧ WKS w' B b (c + 2)

theorem stepsTo4 : StepsTo 4 := fun B b c A k0 k1 k2 k3 s lo n cap w hw hS hs hn hH hf _ _ hc hk => step_wk B b c A k0 k1 k2 k3 s lo n cap w hw hS hs hn hH hf hc (by omega) (by omega)

theorem wks_new (w : World) : WKS (w.alloc (.cells #[.string ⟨#[]⟩, .slice none 0 0, .slice none 0 0, .slice none 0 0, .slice none 0 0, .slice none 0 0, .int .i64 0] 69)) w.heap.size w.heap.size 0 :=
  ⟨fun _ => 0, ⟨#[]⟩, .slice none 0 0, .slice none 0 0, .slice none 0 0, .slice none 0 0, .slice none 0 0, 0, [], [], [], [], [], Nat.le_refl _,
    { lw := ⟨heap_alloc_new w _⟩, rf := Rw.nil _ _, pb := ⟨Rw.nil _ _, Rw.nil _ _, fun i h _ => absurd h (Nat.not_lt_zero _)⟩, pn := ⟨Rw.nil _ _, Rw.nil _ _, fun i h _ => absurd h (Nat.not_lt_zero _)⟩, fo := (fun _ h => nomatch h), kb := ⟨rfl, Nat.le_refl _⟩,
      k1 := (fun _ h => nomatch h), k2 := (fun _ h => nomatch h), k3 := (fun _ h => nomatch h), k4 := (fun _ h => nomatch h), k5 := (fun _ h => nomatch h), k6 := (fun _ h => nomatch h), k7 := (fun _ h => nomatch h), k8 := (fun _ h => nomatch h), sz := (fun _ h => nomatch h), cb := ⟨Nat.le_refl _, Nat.le_refl _⟩, tx := by decide, fl := by decide }⟩

theorem still_wk (B b c : Nat) (w : World) (hw : WKS w B b c) (hc : c ≤ 200000000) :
    Calls Tryd.prog 31 #[.pointer (some ⟨b, 0, none⟩)] w fun e w' => e = .returned (.bool true) ∧ Below w.heap.size w w' := by
  obtain ⟨κ, text, vf, vb, vm, vn, vk, cnt, F, Lb, Mb, Ln, Mn, hcc, hk⟩ := hw
  exact still_any b text vf vb vm vn vk cnt Lb Mb Ln Mn w hk.lw hk.pb hk.pn (by have := hk.cb; omega) (by have := hk.cb; omega) (fun v hv a n c e => by have := hk.sz v hv a n c e; omega)

/-- A step of a script, in memory. -/
structure OpOk (w : World) (b off i : Nat) (k0 k1 k2 k3 : Int) (s : ByteArray) (x : Option Addr) (n c : Nat) : Prop where
  o : OpAt w b off i k0 k1 k2 k3 s x n c
  f1 : Fits k1
  f2 : Fits k2
  f3 : Fits k3
  hs : s.size ≤ 1000000000000000
  hn : n ≤ 9000000000000
  hh : Hurts w x n

theorem fits_small (k : Int) (h : -100 ≤ k) (h2 : k ≤ 100) : Fits k := ⟨by omega, by omega⟩
theorem hurts_none (w : World) (lo : Option Addr) : Hurts w lo 0 := fun h => absurd h (by decide)

set_option maxRecDepth 100000 in
set_option maxHeartbeats 4000000 in
theorem played_to (L : Nat) (hL : StepsTo L) (hL2 : 2 ≤ L) (hL6 : L ≤ 6) (so : Option Addr) (len cap : Nat) (A : Nat → Addr) (w : World) (hlen : len ≤ 50000000) (hS : SentB w A w.heap.size)
    (hel : 0 < len → ∃ b off, so = some ⟨b, off, none⟩ ∧ ∀ i, i < len → ∃ k0 k1 k2 k3 s x n c, OpOk w b off i k0 k1 k2 k3 s x n c) :
    Calls Tryd.prog 14 #[.slice so len cap, .int .i64 L] w fun e w' => e = .returned (.bool true) ∧ Below w.heap.size w w' := by
  have HE : Hid (0 < len → ∃ b off, so = some ⟨b, off, none⟩ ∧ ∀ i, i < len → ∃ k0 k1 k2 k3 s x n c, OpOk w b off i k0 k1 k2 k3 s x n c) := hel
  have HS : Hid (SentB w A w.heap.size) := hS
  have HL : Hid (StepsTo L) := hL
  clear hel hS hL
  have HB0 : Hid (Below w.heap.size w (w.alloc (.cells #[.string ⟨#[]⟩, .slice none 0 0, .slice none 0 0, .slice none 0 0, .slice none 0 0, .slice none 0 0, .int .i64 0] 69))) := (Below.refl _ _).alloc (Nat.le_refl _) _
  have hLi : (2 : Int) ≤ (L : Int) := by omega
  go_enter Tryd.func14, Tryd.ntmps14
  go_wp2_with fail
  refine (HL.out w.heap.size w.heap.size 0 A 1 0 6 2 abcS none 0 0 _ (wks_new w) (HS.out.below HB0.out) (by decide) (by decide) (hurts_none _ _) (fits_small _ (by decide) (by decide)) (fits_small _ (by decide) (by decide)) (fits_small _ (by decide) (by decide)) (by decide) (by omega)).mono ?_
  rintro e w1 ⟨rfl, hb1, hw1⟩
  have HB1 : Hid (Below w.heap.size w w1) := HB0.out.trans hb1
  have HW1 : Hid (WKS w1 w.heap.size w.heap.size 2) := hw1
  clear hb1 hw1
  go_wp2_with fail
  refine (HL.out w.heap.size w.heap.size 2 A 2 0 0 0 ⟨#[]⟩ none 0 0 _ HW1.out (HS.out.below HB1.out) (by decide) (by decide) (hurts_none _ _) (fits_small _ (by decide) (by decide)) (fits_small _ (by decide) (by decide)) (fits_small _ (by decide) (by decide)) (by decide) (by omega)).mono ?_
  rintro e w2 ⟨rfl, hb2, hw2⟩
  have HB2 : Hid (Below w.heap.size w w2) := HB1.out.trans hb2
  have HW2 : Hid (WKS w2 w.heap.size w.heap.size 4) := hw2
  clear hb2 hw2
  go_wp2_with fail
  go_loopw [6, 7] (fun o i wr => ∃ k : Nat, 3 ≤ k ∧ k ≤ L + 1 ∧ o = .bool true ∧ i = .int .i64 k ∧ Below w.heap.size w wr ∧ WKS wr w.heap.size w.heap.size (2 * k)) (fun _ i _ => L + 1 - (intOf i).toNat)
  case atStart => exact ⟨3, by omega, by omega, rfl, rfl, HB2.out, HW2.out.mono (by omega)⟩
  case round =>
    obtain ⟨k, hk3, hkL, rfl, rfl, hb, hw⟩ := hrel
    have HB : Hid (Below w.heap.size w wr) := hb
    have HW : Hid (WKS wr w.heap.size w.heap.size (2 * k)) := hw
    clear hb hw HB1 HB2 HW1 HW2
    by_cases hlk : k ≤ L
    · go_wp2_with fail
      refine (HL.out w.heap.size w.heap.size (2 * k) A k 0 4 4 ⟨#[]⟩ none 0 0 _ HW.out (HS.out.below HB.out) (by decide) (by decide) (hurts_none _ _) (fits_small _ (by decide) (by decide)) (fits_small _ (by decide) (by decide)) (fits_small _ (by decide) (by decide)) (by omega) (by omega)).mono ?_
      rintro e w3 ⟨rfl, hb3, hw3⟩
      have HB3 : Hid (Below w.heap.size w w3) := HB.out.trans hb3
      have HW3 : Hid (WKS w3 w.heap.size w.heap.size (2 * k + 2)) := hw3
      clear hb3 hw3
      go_wp2
      go_roundw
      case rel => exact ⟨k + 1, by omega, by omega, rfl, by go_num, HB3.out, HW3.out.mono (by omega)⟩
      case measure => simp [intOf]; omega
    · have hlk' : (L : Int) < (k : Int) := by omega
      go_wp2_with fail
      go_loopw [6, 8] (fun o i wr => ∃ k : Nat, k ≤ len ∧ o = .bool true ∧ i = .int .i64 k ∧ Below w.heap.size w wr ∧ WKS wr w.heap.size w.heap.size (20 + 2 * k)) (fun _ i _ => len - (intOf i).toNat)
      case atStart => exact ⟨0, by omega, rfl, rfl, HB.out, HW.out.mono (by omega)⟩
      case round =>
        obtain ⟨j, hj, rfl, rfl, hb, hw⟩ := hrel
        clear HB HW
        have HB : Hid (Below w.heap.size w wr) := hb
        have HW : Hid (WKS wr w.heap.size w.heap.size (20 + 2 * j)) := hw
        clear hb hw
        by_cases hlj : j < len
        · obtain ⟨b, off, rfl, hel⟩ := HE.out (by omega)
          obtain ⟨k0, k1, k2, k3, s, x, n, c, hop⟩ := hel j hlj
          have hbl := cell_lt hop.o.c0
          have carry : ∀ j v, w.cell? ⟨b, j, none⟩ = some v → wr.cell? ⟨b, j, none⟩ = some v := fun j v h => (HB.out.cell (p := ⟨b, j, none⟩) hbl).trans h
          have e0 := carry _ _ hop.o.c0
          have e1 := carry _ _ hop.o.c1
          have e2 := carry _ _ hop.o.c2
          have e3 := carry _ _ hop.o.c3
          have e4 := carry _ _ hop.o.c4
          have e5 := carry _ _ hop.o.c5
          have HOP : Hid (OpOk w b off j k0 k1 k2 k3 s x n c) := hop
          clear carry hop hel
          by_cases h1 : k0 ≤ (L : Int)
          · go_wp2_with fail
            refine (HL.out w.heap.size w.heap.size (20 + 2 * j) A k0 k1 k2 k3 s x n c wr HW.out (HS.out.below HB.out) HOP.out.hs HOP.out.hn (HOP.out.hh.below HB.out) HOP.out.f1 HOP.out.f2 HOP.out.f3 (by omega) h1).mono ?_
            rintro e w3 ⟨rfl, hb3, hw3⟩
            have HB3 : Hid (Below w.heap.size w w3) := HB.out.trans hb3
            have HW3 : Hid (WKS w3 w.heap.size w.heap.size (20 + 2 * j + 2)) := hw3
            clear hb3 hw3 e0 e1 e2 e3 e4 e5
            go_wp2_with fail
            refine (still_wk w.heap.size w.heap.size (20 + 2 * j + 2) w3 HW3.out (by omega)).mono ?_
            rintro e w4 ⟨rfl, hb4⟩
            have HB4 : Hid (Below w.heap.size w w4) := HB3.out.trans (hb4.mono HB3.out.size)
            have HW4 : Hid (WKS w4 w.heap.size w.heap.size (20 + 2 * j + 2)) := HW3.out.below hb4
            clear hb4
            go_wp2
            go_roundw
            case rel => exact ⟨j + 1, by omega, rfl, by go_num, HB4.out, HW4.out.mono (by omega)⟩
            case measure => simp [intOf]; omega
          · have h1' : (L : Int) < k0 := by omega
            go_wp2
            go_roundw
            case rel => exact ⟨j + 1, by omega, rfl, by go_num, HB.out, HW.out.mono (by omega)⟩
            case measure => simp [intOf]; omega
        · go_wp2
          go_ret
          exact ⟨rfl, HB.out⟩

/-- The law Opens: its script's steps lie in memory, or there are none. -/
theorem opens_law (so : Option Addr) (len cap : Nat) (A : Nat → Addr) (w : World) (hlen : len ≤ 50000000) (hS : SentB w A w.heap.size)
    (hel : 0 < len → ∃ b off, so = some ⟨b, off, none⟩ ∧ ∀ i, i < len → ∃ k0 k1 k2 k3 s x n c, OpOk w b off i k0 k1 k2 k3 s x n c) :
    Calls Tryd.prog 5 #[.slice so len cap] w fun e w' => e = .returned (.bool true) ∧ Below w.heap.size w w' := by
  have HP : Hid (Calls Tryd.prog 14 #[.slice so len cap, .int .i64 4] w fun e w' => e = .returned (.bool true) ∧ Below w.heap.size w w') := played_to 4 stepsTo4 (by decide) (by decide) so len cap A w hlen hS hel
  clear hS hel
  go_enter Tryd.func5, Tryd.ntmps5
  go_wp2_with fail
  refine Calls.mono HP.out ?_
  rintro e w1 ⟨rfl, hb⟩
  go_wp2
  go_ret
  exact ⟨rfl, hb⟩
end Go.Proofs.YtjahkaggaijpjaaDoor
