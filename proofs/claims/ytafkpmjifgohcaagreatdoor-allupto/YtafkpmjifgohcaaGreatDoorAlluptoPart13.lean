/- The law's own hurt: some text, not much longer. -/
import Derived.Test.YtafkpmjifgohcaaGreatDoorAlluptoPart10
import Derived.Test.YtafkpmjifgohcaaGreatDoorAlluptoPart12
namespace Go.Proofs.YtafkpmjifgohcaaGreatDoor
open Go.RowKit

/-- One thing that happens to a file, in memory. -/
structure HurtAt (w : World) (b off i : Nat) (k0 k1 k2 k3 : Int) : Prop where
  c0 : w.cell? ⟨b, off + i * 4, none⟩ = some (.int .i64 k0)
  c1 : w.cell? ⟨b, off + i * 4 + 1, none⟩ = some (.int .i64 k1)
  c2 : w.cell? ⟨b, off + i * 4 + 2, none⟩ = some (.int .i64 k2)
  c3 : w.cell? ⟨b, off + i * 4 + 3, none⟩ = some (.int .i64 k3)
  f1 : Fits k1
  f2 : Fits k2
  f3 : Fits k3

set_option maxRecDepth 100000 in
set_option maxHeartbeats 4000000 in
theorem hurt_some (s : ByteArray) (b off n cap : Nat) (w : World) (hs : s.size + 100 * n ≤ 1000000000000000)
    (hel : ∀ j, j < n → ∃ k0 k1 k2 k3, HurtAt w b off j k0 k1 k2 k3) :
    Calls Tryz.prog 21 #[.string s, .slice (some ⟨b, off, none⟩) n cap] w fun e w' => ∃ u : ByteArray, e = .returned (.string u) ∧ u.size ≤ s.size + 100 * n ∧ Below w.heap.size w w' := by
  have HE : Hid (∀ j, j < n → ∃ k0 k1 k2 k3, HurtAt w b off j k0 k1 k2 k3) := hel
  clear hel
  go_enter Tryz.func21, Tryz.ntmps21
  go_wp2
  go_loopw [0, 5] (fun t i wr => ∃ (u : ByteArray) (k : Nat), t = .string u ∧ i = .int .i64 k ∧ k ≤ n ∧ u.size ≤ s.size + 100 * k ∧ Below w.heap.size w wr) (fun _ i _ => n - (intOf i).toNat)
  case atStart => exact ⟨s, 0, rfl, rfl, by omega, by omega, Below.refl _ _⟩
  case round =>
    obtain ⟨u, k, rfl, rfl, hk, hu, hb⟩ := hrel
    have HB : Hid (Below w.heap.size w wr) := hb
    clear hb
    have hus : u.size ≤ 1000000000000000 := by omega
    by_cases hlt : k < n
    · by_cases h0 : u.size = 0
      · have e0 : ((u.size : Int) == 0) = true := by rw [h0]; rfl
        clear h0
        go_wp2
        go_ret
        exact ⟨u, rfl, by omega, HB.out⟩
      · have e0 : ((u.size : Int) == 0) = false := by rw [beq_eq_false_iff_ne]; omega
        obtain ⟨k0, k1, k2, k3, hop⟩ := HE.out k hlt
        have hbl : b < w.heap.size := by
          rcases Nat.lt_or_ge b w.heap.size with h | h
          · exact h
          · have := hop.c0; simp [World.cell?, Array.getElem?_eq_none h] at this
        have carry : ∀ j v, w.cell? ⟨b, j, none⟩ = some v → wr.cell? ⟨b, j, none⟩ = some v := fun j v h => (HB.out.cell (p := ⟨b, j, none⟩) hbl).trans h
        have e1 := carry _ _ hop.c0
        have e2 := carry _ _ hop.c1
        have e3 := carry _ _ hop.c2
        have e4 := carry _ _ hop.c3
        have F1 : Hid (Fits k1) := hop.f1
        have F2 : Hid (Fits k2) := hop.f2
        have F3 : Hid (Fits k3) := hop.f3
        have hup : 0 < u.size := by omega
        have hbw : b < wr.heap.size := by have := HB.out.size; omega
        clear carry hop h0
        go_wp2_with fail
        refine (pick_at k1 _ u.size wr rfl F1.out hup hus).mono ?_
        rintro e w1 ⟨pa, hpa, rfl, hw1⟩
        rw [hw1]
        clear hw1 w1
        go_wp2_with fail
        refine (pick_at k2 _ 100 wr rfl F2.out (by decide) (by decide)).mono ?_
        rintro e w1 ⟨pm, hpm, rfl, hw1⟩
        rw [hw1]
        clear hw1 w1
        go_wp2_with fail
        refine (pick_at k3 _ 256 wr rfl F3.out (by decide) (by decide)).mono ?_
        rintro e w1 ⟨pb, hpb, rfl, hw1⟩
        rw [hw1]
        clear hw1 w1
        have hcv : (convert 75 9 (.slice (some ⟨wr.heap.size, 0, none⟩) 1 1)).run Tryz.prog (wr.alloc (.cells #[.int .u8 (pb : Int)] 5)) = .ok (.string ⟨#[UInt8.ofNat pb]⟩) (wr.alloc (.cells #[.int .u8 (pb : Int)] 5)) := one_byte wr (pb : Int) (by omega) (by omega)
        have hpb' : (pb : Int) ≤ 255 := by omega
        have hbz : (⟨#[UInt8.ofNat pb]⟩ : ByteArray).size = 1 := rfl
        have HB2 : Hid (Below w.heap.size w (wr.alloc (.cells #[.int .u8 (pb : Int)] 5))) := HB.out.alloc HB.out.size _
        have hpa' : (pa : Int) < (u.size : Int) := by omega
        by_cases q1 : k0 = 1
        · have z1 : (k0 == 1) = true := by simpa using q1
          clear q1
          go_wp2_with fail
          refine (put_at u _ _ pa _ rfl hus (by show pa + 1 ≤ u.size; omega)).mono ?_
          rintro e w2 ⟨t2, rfl, hsz, q2, rfl⟩
          have HT : Hid (t2.size = u.size) := hsz
          clear hsz
          go_wp2
          go_roundw
          case rel => exact ⟨t2, k + 1, rfl, by go_num, by omega, by have := HT.out; omega, below_drewN HB2.out _⟩
          case measure => simp [intOf]; omega
        · have z1 : (k0 == 1) = false := by simpa using q1
          by_cases q2 : k0 = 2
          · have z2 : (k0 == 2) = true := by simpa using q2
            clear q1 q2
            by_cases hend : (u.size : Int) < (pa : Int) + pm
            · go_wp2_with fail
              go_quiet (fail)
              go_wp2
              go_roundw
              case rel => exact ⟨_, k + 1, rfl, by go_num, by omega, by simp only [ByteArray.size_extract]; omega, below_drewN HB2.out _⟩
              case measure => simp [intOf]; omega
            · have hend2 : (pa : Int) + pm ≤ (u.size : Int) := by omega
              go_wp2_with fail
              go_quiet (fail)
              go_wp2
              go_roundw
              case rel => exact ⟨_, k + 1, rfl, by go_num, by omega, by simp only [ByteArray.size_append, ByteArray.size_extract]; omega, below_drewN HB2.out _⟩
              case measure => simp [intOf]; omega
          · have z2 : (k0 == 2) = false := by simpa using q2
            by_cases q3 : k0 = 3
            · have z3 : (k0 == 3) = true := by simpa using q3
              clear q1 q2 q3
              go_wp2_with fail
              go_loop [10, 11] (fun t i => ∃ (x : ByteArray) (j : Nat), t = .string x ∧ i = .int .i64 j ∧ j ≤ pm ∧ x.size = j) (fun _ i => pm - (intOf i).toNat)
              case atStart => exact ⟨⟨#[]⟩, 0, rfl, rfl, by omega, rfl⟩
              case round =>
                obtain ⟨x, j, rfl, rfl, hj, hx⟩ := hrel
                have HX : Hid (x.size = j) := hx
                have hx2 : x.size ≤ 100 := by omega
                clear hx
                by_cases hjm : j < pm
                · go_wp2
                  go_round
                  case rel => exact ⟨_, j + 1, rfl, by go_num, by omega, by simp only [ByteArray.size_append, HX.out]; rfl⟩
                  case measure => simp [intOf]; omega
                · go_wp2_with fail
                  go_quiet (fail)
                  go_wp2
                  go_roundw
                  case rel => exact ⟨_, k + 1, rfl, by go_num, by omega, by simp only [ByteArray.size_append, ByteArray.size_extract]; omega, below_drewN HB2.out _⟩
                  case measure => simp [intOf]; omega
            · have z3 : (k0 == 3) = false := by simpa using q3
              by_cases q4 : k0 = 4
              · have z4 : (k0 == 4) = true := by simpa using q4
                clear q1 q2 q3 q4
                go_wp2_with fail
                refine (put_at u _ _ pa _ rfl hus (by show pa + 1 ≤ u.size; omega)).mono ?_
                rintro e w2 ⟨t2, rfl, hsz, q2, rfl⟩
                have HT : Hid (t2.size = u.size) := hsz
                clear hsz
                go_wp2_with fail
                refine (sealed_any t2 pa _ (by have := HT.out; omega) (by have := HT.out; omega)).mono ?_
                rintro e w3 ⟨t3, rfl, hsz, hb3⟩
                have HT3 : Hid (t3.size = t2.size) := hsz
                have HB3 : Hid (Below w.heap.size w w3) := (below_drewN HB2.out _).trans (hb3.mono HB2.out.size)
                clear hsz hb3
                go_wp2
                go_roundw
                case rel => exact ⟨t3, k + 1, rfl, by go_num, by omega, by have := HT.out; have := HT3.out; omega, HB3.out⟩
                case measure => simp [intOf]; omega
              · have z4 : (k0 == 4) = false := by simpa using q4
                clear q1 q2 q3 q4
                go_wp2
                go_roundw
                case rel => exact ⟨u, k + 1, rfl, by go_num, by omega, by omega, HB2.out⟩
                case measure => simp [intOf]; omega
    · go_wp2
      go_ret
      exact ⟨u, rfl, by omega, HB.out⟩

set_option maxRecDepth 100000 in
set_option maxHeartbeats 400000 in
theorem hurt_none (s : ByteArray) (lo : Option Addr) (cap : Nat) (w : World) :
    Calls Tryz.prog 21 #[.string s, .slice lo 0 cap] w fun e w' => e = .returned (.string s) ∧ w' = w := by
  go_enter Tryz.func21, Tryz.ntmps21
  go_wp2
  refine wp_loop_rounds 1 ?_
  rw [rounds_succ]
  go_wp2
  go_ret
  exact ⟨rfl, rfl⟩

/-- hurt, whatever happens. -/
theorem hurt_any (s : ByteArray) (lo : Option Addr) (n cap : Nat) (w : World) (hs : s.size + 100 * n ≤ 1000000000000000)
    (hel : 0 < n → ∃ b off, lo = some ⟨b, off, none⟩ ∧ ∀ j, j < n → ∃ k0 k1 k2 k3, HurtAt w b off j k0 k1 k2 k3) :
    Calls Tryz.prog 21 #[.string s, .slice lo n cap] w fun e w' => ∃ u : ByteArray, e = .returned (.string u) ∧ u.size ≤ s.size + 100 * n ∧ Below w.heap.size w w' := by
  by_cases h0 : 0 < n
  · obtain ⟨b, off, rfl, h⟩ := hel h0
    exact hurt_some s b off n cap w hs h
  · obtain rfl : n = 0 := by omega
    exact (hurt_none s lo cap w).mono fun e w' ⟨he, hw⟩ => ⟨s, he, by omega, by rw [hw]; exact Below.refl _ _⟩
end Go.Proofs.YtafkpmjifgohcaaGreatDoor
