/- A byte of a block is turned: how the blocks lie, and what the calls answer. -/
import Derived.Test.YtafkpmjifgohcaaDoorLocalPart20
import Derived.Test.YtafkpmjifgohcaaDoorLocalPart19
import Derived.Laws.BitsAllLaws
namespace Go.Proofs.YtafkpmjifgohcaaDoor
open Go.RowKit

set_option maxHeartbeats 1000000 in
theorem damage_bad (B k : Nat) (A : Nat → Addr) (v : Value) (w : World) (he : BadErr w B v k (A 5)) (hS : SentB w A w.heap.size) (hT : ErrT w) :
    Calls Tryd.prog 23 #[v, .int .i64 k] w fun e w' => e = .returned (.bool true) ∧ Below w.heap.size w w' := by
  have HE : Hid (BadErr w B v k (A 5)) := he
  have HS : Hid (SentB w A w.heap.size) := hS
  have HT : Hid (ErrT w) := hT
  obtain ⟨q, p, f, hv, _⟩ := he
  have hes5 := fun W : World => eq_same (W := W) (A 5)
  clear hS hT
  subst hv
  go_enter Tryd.func23, Tryd.ntmps23
  go_wp2_with fail
  refine (as_badErr B k (A 5) _ w _ HE.out HT.out ((Below.refl _ _).alloc (Nat.le_refl _) _) (heap_alloc_new _ _)).mono ?_
  rintro e w1 ⟨rfl, hb, p', hp', c0, c1, c2⟩
  have HB : Hid (Below w.heap.size w w1) := hb
  clear hb
  have g5 := (HS.out.below HB.out).s.cell 5 (by decide)
  simp only [gv] at g5
  go_wp2_with fail
  go_quiet (fail)
  go_wp2
  go_ret
  exact ⟨rfl, below_drewN HB.out _⟩

/-- How the blocks of what was packed lie. -/
structure Sk.Looks (n bl L : Nat) (bs : List Sk.Blk) : Prop where
  cnt : bs.length = (n + bl - 1) / bl
  lt : ∀ i, i < bs.length → i * bl < n
  frm : ∀ i, i < bs.length → (Sk.bk bs i).frm = i * bl
  siz : ∀ i, i < bs.length → (Sk.bk bs i).size = min (i * bl + bl) n - i * bl
  pos : ∀ i, i < bs.length → 3 ≤ (Sk.bk bs i).pos
  nxt : ∀ i, i + 1 < bs.length → (Sk.bk bs i).pos + 10 ≤ (Sk.bk bs (i + 1)).pos ∧ (Sk.bk bs (i + 1)).pos ≤ L
  lst : ∀ i, i + 1 = bs.length → (Sk.bk bs i).pos + 10 ≤ L

theorem Sk.endOf_eq (s : List UInt8) (bl k : Nat) : Sk.endOf s bl k = min (k * bl + bl) s.length := rfl

theorem Sk.looks (s : List UInt8) (bl ev : Nat) (h1 : 1 ≤ bl) (h2 : bl ≤ 1024) (hs : s.length ≤ 5000) : Sk.Looks s.length bl (Sk.fileOf s bl ev).length (Sk.fblk s bl ev s.length 0 0 3) := by
  have hop := Sk.file_opn (s := s) (every := ev) h1 h2 hs
  have hG := Sk.openR_good (Sk.fileOf s bl ev)
  rw [hop] at hG
  have hc := Sk.openR_chain hop
  have hpk := fun i hi => Sk.packed_pos (s := s) (every := ev) h1 h2 hs i hi
  have hk := fun i hi => Sk.fblk_k s bl ev h1 h2 (by omega) i hi
  have hiff : ∀ j, j < (Sk.fblk s bl ev s.length 0 0 3).length ↔ j < (s.length + bl - 1) / bl := fun j => by
    rw [Sk.count_lt _ _ _ h1]
    refine ⟨fun h => (hk j h).1, fun h => ?_⟩
    have := Sk.fblk_at s bl ev h1 h2 (by omega) (Sk.fileOf s bl ev) s.length 0 0 [83, 75, 49] (by omega) rfl j (by rw [Nat.zero_add]; exact h)
    exact this.1
  refine ⟨?_, fun i hi => (hk i hi).1, fun i hi => (hk i hi).2.1, fun i hi => (hk i hi).2.2.1, fun i hi => ?_, fun i hi => ?_, fun i hi => ?_⟩
  · rcases Nat.lt_trichotomy (Sk.fblk s bl ev s.length 0 0 3).length ((s.length + bl - 1) / bl) with h | h | h
    · have := (hiff _).2 h; omega
    · exact h
    · have := (hiff _).1 h; omega
  · have := (hG.ins i hi).1
    dsimp only at this
    omega
  · have e := hc.nxt i hi
    have p := hpk i (by omega)
    have q := (hG.ins (i + 1) hi).2
    dsimp only at q
    omega
  · have e := hc.lst i hi
    have p := hpk i (by omega)
    omega

theorem Sk.fblk_end (s : List UInt8) (bl ev k : Nat) (h1 : 1 ≤ bl) (h2 : bl ≤ 1024) (hs : s.length ≤ 5000) (hk : k < (Sk.fblk s bl ev s.length 0 0 3).length) :
    (Sk.bk (Sk.fblk s bl ev s.length 0 0 3) k).pos + 9 + Sk.numAt (Sk.fileOf s bl ev) ((Sk.bk (Sk.fblk s bl ev s.length 0 0 3) k).pos + 3) 2 = if k + 1 < (Sk.fblk s bl ev s.length 0 0 3).length then (Sk.bk (Sk.fblk s bl ev s.length 0 0 3) (k + 1)).pos else (Sk.fileOf s bl ev).length := by
  have hop := Sk.file_opn (s := s) (every := ev) h1 h2 hs
  have hc := Sk.openR_chain hop
  split
  · next c => exact (hc.nxt k c).symm
  · next c => exact (hc.lst k (by omega)).symm

theorem xor_ne (a b : Nat) (hb : 0 < b) : a ^^^ b ≠ a := fun h => by
  have : a ^^^ (a ^^^ b) = a ^^^ a := by rw [h]
  rw [← Nat.xor_assoc, Nat.xor_self, Nat.zero_xor] at this
  omega

section
variable {s : List UInt8} {block every k a : Nat} {x : UInt8}

theorem Sk.Flip.good (h : Sk.Flip s block every k a x) : Sk.Good ((Sk.fileOf s block every).set a x) (Sk.fblk s block every s.length 0 0 3) s.length := by
  have hG := Sk.openR_good ((Sk.fileOf s block every).set a x)
  rwa [h.openR] at hG
theorem Sk.Flip.small (h : Sk.Flip s block every k a x) : (⟨((Sk.fileOf s block every).set a x).toArray⟩ : ByteArray).size ≤ 65536 ∧ (Sk.fblk s block every s.length 0 0 3).length ≤ 20000 := by
  have hf := Sk.fileOf_length s block every h.hb1
  have hs := h.hs
  have hlen := (Sk.openR_data ((Sk.fileOf s block every).set a x)).2
  rw [h.openR] at hlen
  dsimp only at hlen
  refine ⟨?_, by omega⟩
  show ((Sk.fileOf s block every).set a x).toArray.size ≤ _
  simp
  omega

theorem flipRead_good (h : Sk.Flip s block every k a x) (B g : Nat) (v : Value) (i : Nat) (A : Nat → Addr) (w : World) (hP : PFile w B g ⟨((Sk.fileOf s block every).set a x).toArray⟩ v (Sk.fblk s block every s.length 0 0 3) s.length) (hS : SentB w A w.heap.size)
    (hi : i < (Sk.fblk s block every s.length 0 0 3).length) (hc : i < k ∨ Sk.nextF every k ≤ i) (P Z : Nat) (eP : (Sk.bk (Sk.fblk s block every s.length 0 0 3) i).frm = P) (eZ : (Sk.bk (Sk.fblk s block every s.length 0 0 3) i).size = Z) :
    Calls Tryd.prog 21 #[.pointer (some ⟨g, 0, none⟩), .int .i64 P, .int .i64 Z] w fun e w' => e = .returned (.tuple #[.string ⟨(Sk.sub s P (P + Z)).toArray⟩, .nilIface]) ∧ Below w.heap.size w w' := by
  obtain ⟨hz, hl⟩ := h.small
  have hk := Sk.fblk_k s block every h.hb1 h.hb2 (by have := h.hs; omega) i hi
  have hlf := Sk.lastF_le (Sk.fblk s block every s.length 0 0 3) i
  have hkf := Sk.fblk_k s block every h.hb1 h.hb2 (by have := h.hs; omega) (Sk.lastF (Sk.fblk s block every s.length 0 0 3) i) (by omega)
  have eP2 := eP
  have eZ2 := eZ
  rw [hk.2.1] at eP2
  rw [hk.2.2.1, Sk.endOf_eq] at eZ2
  have h0 := hk.1
  have hb1 := h.hb1
  refine (readAt_good B g _ v _ s.length P Z i i _ (A 5) w hP (by rw [dl_str]; exact h.good) hz hl (by omega) (by omega) ⟨hi, by omega, by omega⟩ ⟨hi, by omega, by omega⟩ (hS.s.cell 5 (by decide)) (by rw [dl_str]; exact h.data_good i hi hc)).mono ?_
  rintro e w' ⟨rfl, hb⟩
  refine ⟨?_, hb⟩
  have hm : Sk.lastF (Sk.fblk s block every s.length 0 0 3) i * block ≤ i * block := Nat.mul_le_mul_right _ hlf
  rw [hkf.2.1, Sk.sub_sub _ _ _ _ _ (by rw [Sk.endOf_eq]; omega)]
  generalize Sk.lastF (Sk.fblk s block every s.length 0 0 3) i * block = y at hm ⊢
  rw [show y + (P - y) = P by omega, show y + (P - y + Z) = P + Z by omega]

theorem flipRead_bad (h : Sk.Flip s block every k a x) (B g : Nat) (v : Value) (i : Nat) (A : Nat → Addr) (w : World) (hP : PFile w B g ⟨((Sk.fileOf s block every).set a x).toArray⟩ v (Sk.fblk s block every s.length 0 0 3) s.length) (hS : SentB w A w.heap.size)
    (hi : i < (Sk.fblk s block every s.length 0 0 3).length) (hc : k ≤ i ∧ i < Sk.nextF every k) (P Z : Nat) (eP : (Sk.bk (Sk.fblk s block every s.length 0 0 3) i).frm = P) (eZ : (Sk.bk (Sk.fblk s block every s.length 0 0 3) i).size = Z) :
    Calls Tryd.prog 21 #[.pointer (some ⟨g, 0, none⟩), .int .i64 P, .int .i64 Z] w fun e w' => ∃ v, e = .returned (.tuple #[.string ⟨#[]⟩, v]) ∧ BadErr w' w.heap.size v k (A 5) ∧ Below w.heap.size w w' := by
  obtain ⟨hz, hl⟩ := h.small
  have hk := Sk.fblk_k s block every h.hb1 h.hb2 (by have := h.hs; omega) i hi
  have hlf := h.lastF_le (i - k) (by omega) (by omega)
  rw [show k + (i - k) = i by omega] at hlf
  have eP2 := eP
  have eZ2 := eZ
  rw [hk.2.1] at eP2
  rw [hk.2.2.1, Sk.endOf_eq] at eZ2
  have h0 := hk.1
  have hb1 := h.hb1
  exact readAt_bad B g _ v _ s.length P Z i i 6 k A w hP (by rw [dl_str]; exact h.good) hz hl (by omega) (by omega) ⟨hi, by omega, by omega⟩ ⟨hi, by omega, by omega⟩ hS (by rw [dl_str]; exact h.data_bad _ _ hlf (by omega))

theorem flipRead_all (h : Sk.Flip s block every k a x) (B g : Nat) (v : Value) (A : Nat → Addr) (w : World) (hP : PFile w B g ⟨((Sk.fileOf s block every).set a x).toArray⟩ v (Sk.fblk s block every s.length 0 0 3) s.length) (hS : SentB w A w.heap.size) (n : Nat) (hn : s.length = n) :
    Calls Tryd.prog 21 #[.pointer (some ⟨g, 0, none⟩), .int .i64 (0 : Nat), .int .i64 n] w fun e w' => ∃ v, e = .returned (.tuple #[.string ⟨#[]⟩, v]) ∧ BadErr w' w.heap.size v k (A 5) ∧ Below w.heap.size w w' := by
  subst hn
  obtain ⟨hz, hl⟩ := h.small
  have hkk := h.hk
  have hb1 := h.hb1
  have L := Sk.looks s block every h.hb1 h.hb2 h.hs
  have hk0 := Sk.fblk_k s block every h.hb1 h.hb2 (by have := h.hs; omega) 0 (by omega)
  have hk1 := Sk.fblk_k s block every h.hb1 h.hb2 (by have := h.hs; omega) ((Sk.fblk s block every s.length 0 0 3).length - 1) (by omega)
  have hE := Sk.end_last s block ((Sk.fblk s block every s.length 0 0 3).length - 1) hb1 (by rw [← L.cnt]; omega)
  rw [hE] at hk1
  rw [Sk.endOf_eq] at hk0
  have hlf := Sk.lastF_le (Sk.fblk s block every s.length 0 0 3) 0
  have hn0 := hk0.1
  refine readAt_bad B g _ v _ s.length 0 s.length 0 ((Sk.fblk s block every s.length 0 0 3).length - 1) 6 k A w hP (by rw [dl_str]; exact h.good) hz hl (by omega) (by omega) ⟨by omega, by omega, by rw [hk0.2.1, hk0.2.2.1]; omega⟩ ⟨by omega, by rw [hk1.2.1]; omega, by rw [hk1.2.1, hk1.2.2.1]; omega⟩ hS (by rw [dl_str]; exact h.data_bad _ _ (by omega) (by omega))
end
end Go.Proofs.YtafkpmjifgohcaaDoor
