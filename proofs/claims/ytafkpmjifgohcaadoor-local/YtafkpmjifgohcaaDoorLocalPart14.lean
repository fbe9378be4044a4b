/- A block put together by the statements themselves; awake.
awake, walked: it answers true. -/
import Derived.Test.YtafkpmjifgohcaaDoorLocalPart12
import Derived.Test.YtafkpmjifgohcaaDoorLocalPart13
namespace Go.Proofs.YtafkpmjifgohcaaDoor
open Go.RowKit

theorem runK_any (s : ByteArray) (w : World) (h1 : 1 ≤ s.size) (h2 : s.size ≤ 128) :
    Calls Tryd.prog 24 #[.string s] w fun e w' => e = .returned (.string ⟨(UInt8.ofNat (s.size - 1) :: s.data.toList).toArray⟩) ∧ Below w.heap.size w w' := by
  have hcv := one_byte w ((s.size : Int) - 1) (by omega) (by omega)
  have h3 : (0 : Int) ≤ (s.size : Int) - 1 := by omega
  have h4 : (s.size : Int) - 1 < 256 := by omega
  have HE : Hid ((⟨#[UInt8.ofNat (s.size - 1)]⟩ : ByteArray) ++ s = ⟨(UInt8.ofNat (s.size - 1) :: s.data.toList).toArray⟩) := by
    show _ = _
    apply ByteArray.ext
    rw [ByteArray.data_append]
    apply Array.ext'
    simp
  go_enter Tryd.func24, Tryd.ntmps24
  go_wp2
  go_ret
  refine ⟨?_, (Below.refl _ _).alloc (Nat.le_refl _) _⟩
  rw [← HE.out]
  rfl

theorem conv1 (g : Nat) (w : World) (b : UInt8) (h : w.cell? ⟨g, 0, none⟩ = some (.int .u8 b.toNat)) : (convert 53 9 (.slice (some ⟨g, 0, none⟩) 1 1)).run Tryd.prog w = .ok (.string ⟨#[b]⟩) w :=
  run_convert_bytes_back (P := Tryd.prog) w 53 9 5 ⟨g, 0, none⟩ 1 [b] Tryd.underlying53 Tryd.underlying5 Tryd.underlying9 (fun j hj => by
    have : j = 0 := by simpa using hj
    subst this
    rw [add_plain]
    exact h)

theorem two62 (g : Nat) (W : World) (h : W.cell? ⟨g, 0, none⟩ = some (.int .u8 130)) :
    Calls Tryd.prog 44 #[.int .i64 2] W fun e w' => e = .returned (.string ⟨#[2, 0]⟩) ∧ Below W.heap.size W w' ∧ (convert 53 9 (.slice (some ⟨g, 0, none⟩) 1 1)).run Tryd.prog w' = .ok (.string ⟨#[130]⟩) w' :=
  (two_any 2 W (by decide)).mono fun e w' ⟨he, hb⟩ => ⟨he, hb, conv1 g w' 130 ((hb.cell (p := ⟨g, 0, none⟩) (cell_lt h)).trans h)⟩

set_option maxRecDepth 100000 in
set_option maxHeartbeats 1000000 in
theorem copied62 (w : World) :
    Calls Tryd.prog 26 #[.int .i64 6, .int .i64 2] w fun e w' => e = .returned (.string ⟨#[130, 2, 0]⟩) ∧ Below w.heap.size w w' := by
  have hcv : ∀ W : World, (convert 53 9 (.slice (some ⟨W.heap.size, 0, none⟩) 1 1)).run Tryd.prog (W.alloc (.cells #[.int .u8 130] 5)).drew = .ok (.string ⟨#[130]⟩) (W.alloc (.cells #[.int .u8 130] 5)).drew := fun W => one_byte W.drew 130 (by decide) (by decide)
  have hcv2 : ∀ W : World, (convert 53 9 (.slice (some ⟨W.heap.size, 0, none⟩) 1 1)).run Tryd.prog (W.alloc (.cells #[.int .u8 130] 5)) = .ok (.string ⟨#[130]⟩) (W.alloc (.cells #[.int .u8 130] 5)) := fun W => one_byte W 130 (by decide) (by decide)
  have u1 : IntKind.i64.wrap 134 = 134 := by decide
  have u2 : IntKind.i64.wrap 130 = 130 := by decide
  have u3 : IntKind.u8.wrap 130 = 130 := by decide
  go_enter Tryd.func26, Tryd.ntmps26
  go_wp2_with fail
  go_region_with (first | (go_at_call 44; refine Calls.mono (two62 w.heap.size _ ?hq) ?_; (case hq => (simp; done)); rintro e w1 ⟨rfl, hb1, hcv3⟩; have HB1 : Hid (Below w.heap.size w w1) := (by first | exact ((Below.refl _ _).drew).trans (hb1.mono (by simp)) | exact (((Below.refl _ _).alloc (Nat.le_refl _) _).drew).trans (hb1.mono (by simp)) | exact ((Below.refl _ _).alloc (Nat.le_refl _) _).trans (hb1.mono (by simp)) | exact hb1); clear hb1) | (go_at_call 44; refine (two_any 2 _ (by decide)).mono ?_; rw [show (⟨(Sk.le 2 2).toArray⟩ : ByteArray) = ⟨#[2, 0]⟩ from rfl]; rintro e w1 ⟨rfl, hb1⟩; have HB1 : Hid (Below w.heap.size w w1) := (by first | exact ((Below.refl _ _).drew).trans (hb1.mono (by simp)) | exact (((Below.refl _ _).alloc (Nat.le_refl _) _).drew).trans (hb1.mono (by simp)) | exact ((Below.refl _ _).alloc (Nat.le_refl _) _).trans (hb1.mono (by simp)) | exact hb1); clear hb1))
  all_goals
    go_wp2
    go_ret
    exact ⟨rfl, by first | exact HB1.out | exact HB1.out.alloc HB1.out.size _⟩

theorem Sk.le_sum (x y : Nat) (hx : x < 65536) : Sk.le (y * 65536 + x) 4 = Sk.le x 2 ++ Sk.le y 2 := by
  simp only [Sk.le, List.cons_append, List.nil_append]
  have e1 : (y * 65536 + x) % 256 = x % 256 := by omega
  have e2 : (y * 65536 + x) / 256 % 256 = x / 256 % 256 := by omega
  have e3 : (y * 65536 + x) / 256 / 256 % 256 = y % 256 := by omega
  have e4 : (y * 65536 + x) / 256 / 256 / 256 % 256 = y / 256 % 256 := by omega
  rw [e1, e2, e3, e4]

set_option maxHeartbeats 2000000 in
theorem blockK_any (f : Bool) (n : Nat) (p : ByteArray) (w : World) (hn : n < 65536) (hp : p.size < 65536) :
    Calls Tryd.prog 25 #[.bool f, .int .i64 n, .string p] w fun e w' => e = .returned (.string ⟨(Sk.hdr f n p.size (Sk.sumOf p.data.toList) ++ p.data.toList).toArray⟩) ∧ Below w.heap.size w w' := by
  go_enter Tryd.func25, Tryd.ntmps25
  go_wp2
  go_loop [7, 8, 9] (fun a b i => ∃ k x y : Nat, k ≤ p.size ∧ i = .int .i64 k ∧ a = .int .i64 x ∧ b = .int .i64 y ∧ x < 65521 ∧ y < 65521 ∧ Sk.sumN (p.data.toList.drop k) x y = Sk.sumN p.data.toList 1 0) (fun _ _ i => p.size - (intOf i).toNat)
  case atStart => exact ⟨0, 1, 0, by omega, rfl, rfl, rfl, by omega, by omega, rfl⟩
  case round =>
    obtain ⟨k, x, y, hk, rfl, rfl, rfl, hx, hy, hinv⟩ := hrel
    have HI : Hid (Sk.sumN (p.data.toList.drop k) x y = Sk.sumN p.data.toList 1 0) := hinv
    clear hinv
    by_cases hlt : k < p.size
    · have h1 := str_idx p k k rfl hlt
      have hb := UInt8.toNat_lt (Sk.gt p.data.toList k)
      have HI2 : Hid (Sk.sumN (p.data.toList.drop (k + 1)) ((x + (Sk.gt p.data.toList k).toNat) % 65521) ((y + (x + (Sk.gt p.data.toList k).toNat) % 65521) % 65521) = Sk.sumN p.data.toList 1 0) := by
        have := HI.out
        rw [Sk.drop_gt _ _ (by simpa using hlt), Sk.sumN] at this
        exact this
      clear HI
      generalize (Sk.gt p.data.toList k).toNat = c at *
      go_wp2
      go_round
      case rel => exact ⟨k + 1, _, _, by omega, by go_num, by go_num, by go_num, Nat.mod_lt _ (by decide), Nat.mod_lt _ (by decide), HI2.out⟩
      case measure => simp [intOf]; omega
    · have HS : Hid (Sk.hdr f n p.size (Sk.sumOf p.data.toList) = Sk.le (if f then 1 else 0) 1 ++ Sk.le n 2 ++ Sk.le p.size 2 ++ (Sk.le x 2 ++ Sk.le y 2)) := by
        have := HI.out
        rw [List.drop_of_length_le (by simp; omega), Sk.sumN] at this
        show _ = _
        unfold Sk.hdr Sk.sumOf
        rw [← this, Sk.le_sum x y (by omega)]
      clear HI
      have z1 : (⟨(Sk.le n 2).toArray⟩ : ByteArray).size = 2 := by show (Sk.le n 2).toArray.size = 2; simp [Sk.le_length]
      have z2 : (⟨(Sk.le p.size 2).toArray⟩ : ByteArray).size = 2 := by show (Sk.le p.size 2).toArray.size = 2; simp [Sk.le_length]
      have z3 : (⟨(Sk.le x 2).toArray⟩ : ByteArray).size = 2 := by show (Sk.le x 2).toArray.size = 2; simp [Sk.le_length]
      have z4 : (⟨(Sk.le y 2).toArray⟩ : ByteArray).size = 2 := by show (Sk.le y 2).toArray.size = 2; simp [Sk.le_length]
      cases f
      all_goals
        go_wp2_with fail
        refine (two_any n w hn).mono ?_
        rintro e w1 ⟨rfl, hb1⟩
        have HB1 : Hid (Below w.heap.size w w1) := hb1
        clear hb1
        go_wp2_with fail
        refine (two_any p.size w1 hp).mono ?_
        rintro e w2 ⟨rfl, hb2⟩
        have HB2 : Hid (Below w.heap.size w w2) := HB1.out.trans (hb2.mono HB1.out.size)
        clear hb2
        go_wp2_with fail
        refine (two_any x w2 (by omega)).mono ?_
        rintro e w3 ⟨rfl, hb3⟩
        have HB3 : Hid (Below w.heap.size w w3) := HB2.out.trans (hb3.mono HB2.out.size)
        clear hb3
        go_wp2_with fail
        refine (two_any y w3 (by omega)).mono ?_
        rintro e w4 ⟨rfl, hb4⟩
        have HB4 : Hid (Below w.heap.size w w4) := HB3.out.trans (hb4.mono HB3.out.size)
        clear hb4
        go_wp2
        go_ret
        refine ⟨?_, HB4.out⟩
        rw [HS.out]
        show Ending.returned (.string _) = _
        congr 2
end Go.Proofs.YtafkpmjifgohcaaDoor

namespace Go.Proofs.YtafkpmjifgohcaaDoor
open Go.RowKit

def Sk.awP : List UInt8 := [1, 97, 98, 130, 2, 0]
def Sk.awF : List UInt8 := [83, 75, 49] ++ (Sk.hdr true 8 6 (Sk.sumOf Sk.awP) ++ Sk.awP)

theorem Sk.aw_open : Sk.openR Sk.awF = (0, [⟨0, 8, 3, true⟩], 8) := by kernel_rfl

theorem Sk.aw_data : Sk.dataN Sk.awF [⟨0, 8, 3, true⟩] 0 1 = .good [97, 98, 97, 98, 97, 98, 97, 98] := by kernel_rfl

theorem Sk.aw_list : (⟨Sk.awF.toArray⟩ : ByteArray).data.toList = Sk.awF := by show Sk.awF.toArray.toList = Sk.awF; simp
theorem Sk.aw_good : Sk.Good (⟨Sk.awF.toArray⟩ : ByteArray).data.toList [⟨0, 8, 3, true⟩] 8 := by
  rw [Sk.aw_list]
  have := Sk.openR_good Sk.awF
  rw [Sk.aw_open] at this
  exact this
theorem Sk.aw_data2 : Sk.dataN (⟨Sk.awF.toArray⟩ : ByteArray).data.toList [⟨0, 8, 3, true⟩] 0 1 = .good [97, 98, 97, 98, 97, 98, 97, 98] := by
  rw [Sk.aw_list]
  exact Sk.aw_data

set_option maxRecDepth 100000 in
set_option maxHeartbeats 2000000 in
theorem awake_any (A : Nat → Addr) (w : World) (hA : Errs w A) :
    Calls Tryd.prog 13 #[] w fun e w' => e = .returned (.bool true) ∧ Below w.heap.size w w' := by
  have HA : Hid (Errs w A) := hA
  clear hA
  go_enter Tryd.func13, Tryd.ntmps13
  go_wp2_with fail
  refine (runK_any ⟨#[97, 98]⟩ w (by decide) (by decide)).mono ?_
  rw [show (⟨(UInt8.ofNat ((⟨#[97, 98]⟩ : ByteArray).size - 1) :: (⟨#[97, 98]⟩ : ByteArray).data.toList).toArray⟩ : ByteArray) = ⟨#[1, 97, 98]⟩ from rfl]
  rintro e w1 ⟨rfl, hb1⟩
  have HB1 : Hid (Below w.heap.size w w1) := hb1
  clear hb1
  go_wp2_with fail
  refine (copied62 w1).mono ?_
  rintro e w2 ⟨rfl, hb2⟩
  have HB2 : Hid (Below w.heap.size w w2) := HB1.out.trans (hb2.mono HB1.out.size)
  clear hb2
  go_wp2_with fail
  rw [show ((⟨#[1, 97, 98]⟩ : ByteArray) ++ (⟨#[130, 2, 0]⟩ : ByteArray)) = ⟨Sk.awP.toArray⟩ from rfl]
  refine (blockK_any true 8 ⟨Sk.awP.toArray⟩ w2 (by decide) (by decide)).mono ?_
  rw [show (⟨Sk.awP.toArray⟩ : ByteArray).size = 6 from rfl, show (⟨Sk.awP.toArray⟩ : ByteArray).data.toList = Sk.awP from rfl]
  rintro e w3 ⟨rfl, hb3⟩
  have HB3 : Hid (Below w.heap.size w w3) := HB2.out.trans (hb3.mono HB2.out.size)
  clear hb3
  have hz : (⟨(Sk.hdr true 8 6 (Sk.sumOf Sk.awP) ++ Sk.awP).toArray⟩ : ByteArray).size = 15 := by
    show (Sk.hdr true 8 6 (Sk.sumOf Sk.awP) ++ Sk.awP).toArray.size = 15
    simp [Sk.hdr_length, Sk.awP]
  go_wp2_with fail
  clear hz
  rw [show ((⟨#[83, 75, 49]⟩ : ByteArray) ++ (⟨(Sk.hdr true 8 6 (Sk.sumOf Sk.awP) ++ Sk.awP).toArray⟩ : ByteArray)) = ⟨Sk.awF.toArray⟩ from by apply ByteArray.ext; apply Array.ext'; simp [Sk.awF, ByteArray.data_append]]
  have hzF : (⟨Sk.awF.toArray⟩ : ByteArray).size = 18 := by
    show Sk.awF.toArray.size = 18
    simp [Sk.awF, Sk.hdr_length, Sk.awP]
  have HZF : Hid ((⟨Sk.awF.toArray⟩ : ByteArray).size = 18) := hzF
  clear hzF
  refine (open_any ⟨Sk.awF.toArray⟩ A w3 (HA.out.below' HB3.out) (by rw [HZF.out]; decide)).mono ?_
  rw [Sk.aw_list, Sk.aw_open]
  rintro e w4 ⟨hb4, _, r0, _⟩
  obtain ⟨g, v, rfl, hpf⟩ := r0 rfl
  have HB4 : Hid (Below w.heap.size w w4) := HB3.out.trans (hb4.mono HB3.out.size)
  have HPF : Hid (PFile w4 w3.heap.size g ⟨Sk.awF.toArray⟩ v [⟨0, 8, 3, true⟩] 8) := hpf
  clear hb4 r0 hpf
  go_wp2_with fail
  refine (readAt_good w3.heap.size g ⟨Sk.awF.toArray⟩ v [⟨0, 8, 3, true⟩] 8 1 6 0 0 [97, 98, 97, 98, 97, 98, 97, 98] (A 5) w4 HPF.out Sk.aw_good (by rw [HZF.out]; decide) (by decide) (by decide) (by decide) (by decide) (by decide) ((HA.out.below' HB4.out) 5 (by decide)) Sk.aw_data2).mono ?_
  rintro e w5 ⟨he, hb5⟩
  have he2 : e = .returned (.tuple #[.string ⟨#[98, 97, 98, 97, 98, 97]⟩, .nilIface]) := he
  subst he2
  have HB5 : Hid (Below w.heap.size w w5) := HB4.out.trans (hb5.mono HB4.out.size)
  have HP5 : Hid (PFile w5 w3.heap.size g ⟨Sk.awF.toArray⟩ v [⟨0, 8, 3, true⟩] 8) := HPF.out.below hb5
  clear hb5 he
  go_wp2_with fail
  refine (size_any w5 w3.heap.size g _ v _ 8 HP5.out).mono ?_
  rintro e w6 ⟨rfl, hw6⟩
  rw [hw6]
  clear hw6 w6
  go_wp2
  go_ret
  exact ⟨rfl, HB5.out⟩
end Go.Proofs.YtafkpmjifgohcaaDoor
