/- Reading block by block, each from its last fresh one on, against reading across (pure).
The document's ReadAt.
The document's Check. -/
import Derived.Test.YtafkpmjifgohcaaGreatDoorAlluptoPart32
import Derived.Test.YtafkpmjifgohcaaGreatDoorAlluptoPart35
import Derived.Test.YtafkpmjifgohcaaGreatDoorAlluptoPart1
namespace Go.Proofs.YtafkpmjifgohcaaGreatDoor

theorem Sk.upto_why7 (s : List UInt8) (bs : List Sk.Blk) : ∀ k w j, Sk.upto s bs k = .bad w j → w = 6 ∨ w = 7
  | 0, w, j, h => (Sk.atB_bad h).2
  | k + 1, w, j, h => by
    rw [Sk.upto] at h
    split at h
    · exact (Sk.atB_bad h).2
    · split at h
      · next w' j' h' => cases h; exact Sk.upto_why7 s bs k _ _ h'
      · exact (Sk.atB_bad h).2

section
variable {s : List UInt8} {bs : List Sk.Blk} {d : Nat}

theorem Sk.isBad_of_good {k : Nat} {o : List UInt8} (h : Sk.upto s bs k = .good o) : Sk.isBad s bs k = false := by unfold Sk.isBad; rw [h]
theorem Sk.isBad_of_bad {k w j : Nat} (h : Sk.upto s bs k = .bad w j) : Sk.isBad s bs k = true := by unfold Sk.isBad; rw [h]

/-- The first block that is bad, from k0 on, is what reading across finds. -/
theorem Sk.first_bad (hG : Sk.Good s bs d) {k0 k k1 why j : Nat} (h0 : k0 ≤ k) (h1 : k ≤ k1) (hl : k1 < bs.length) (hg : ∀ i, k0 ≤ i → i < k → Sk.isBad s bs i = false) (hb : Sk.upto s bs k = .bad why j) :
    Sk.dataN s bs (Sk.lastF bs k0) (k1 + 1 - Sk.lastF bs k0) = .bad why j := by
  have hfr := hG.lastF_fresh k0 (by omega)
  have hle := Sk.lastF_le bs k0
  cases hd : Sk.dataN s bs (Sk.lastF bs k0) (k1 + 1 - Sk.lastF bs k0) with
  | good D =>
    have := Sk.dataN_isGood _ D hd (k - Sk.lastF bs k0) (by omega)
    rw [show Sk.lastF bs k0 + (k - Sk.lastF bs k0) = k by omega, Sk.isBad_of_bad hb] at this
    cases this
  | bad w' j' =>
    obtain ⟨a1, a2, a3, D, a4⟩ := Sk.dataN_bad hfr _ _ _ hd
    rcases Nat.lt_or_ge j' k0 with c | c
    · have hu := Sk.upto_on s bs k0 w' j' (k0 - j') j' (by omega) a1 a3
      have e : k = k0 := by
        rcases Nat.lt_or_ge k0 k with c2 | c2
        · have := hg k0 (Nat.le_refl _) c2
          rw [Sk.isBad_of_bad hu] at this
          cases this
        · omega
      rw [e, hu] at hb
      exact hb
    · have e : k = j' := by
        rcases Nat.lt_trichotomy k j' with c2 | c2 | c2
        · have := Sk.dataN_isGood _ D a4 (k - Sk.lastF bs k0) (by omega)
          rw [show Sk.lastF bs k0 + (k - Sk.lastF bs k0) = k by omega, Sk.isBad_of_bad hb] at this
          cases this
        · exact c2
        · have := hg j' c c2
          rw [Sk.isBad_of_bad a3] at this
          cases this
      rw [e, a3] at hb
      exact hb

/-- Where none is bad, reading across is good. -/
theorem Sk.none_bad (hG : Sk.Good s bs d) {k0 k1 : Nat} (h0 : k0 ≤ k1) (hl : k1 < bs.length) (hg : ∀ i, k0 ≤ i → i ≤ k1 → Sk.isBad s bs i = false) :
    ∃ D, Sk.dataN s bs (Sk.lastF bs k0) (k1 + 1 - Sk.lastF bs k0) = .good D := by
  have hfr := hG.lastF_fresh k0 (by omega)
  have hle := Sk.lastF_le bs k0
  cases hd : Sk.dataN s bs (Sk.lastF bs k0) (k1 + 1 - Sk.lastF bs k0) with
  | good D => exact ⟨D, rfl⟩
  | bad w' j' =>
    obtain ⟨a1, a2, a3, D, a4⟩ := Sk.dataN_bad hfr _ _ _ hd
    rcases Nat.lt_or_ge j' k0 with c | c
    · have hu := Sk.upto_on s bs k0 w' j' (k0 - j') j' (by omega) a1 a3
      have := hg k0 (Nat.le_refl _) h0
      rw [Sk.isBad_of_bad hu] at this
      cases this
    · have := hg j' c (by omega)
      rw [Sk.isBad_of_bad a3] at this
      cases this

theorem Sk.Good.upTo (h : Sk.Good s bs d) {k k1 : Nat} (h1 : k ≤ k1) (hl : k1 < bs.length) : (Sk.bk bs k).frm + (Sk.bk bs k).size ≤ (Sk.bk bs k1).frm + (Sk.bk bs k1).size := by
  rcases Nat.lt_or_ge k k1 with c | c
  · have a := h.nxt k (by omega)
    have b := h.frm_le (k + 1) (k1 - (k + 1)) (by omega)
    rw [show k + 1 + (k1 - (k + 1)) = k1 by omega] at b
    omega
  · rw [show k = k1 by omega]; exact Nat.le_refl _

/-- What a block gives, in the data across. -/
theorem Sk.upto_in (hG : Sk.Good s bs d) {k0 k k1 : Nat} {o D : List UInt8} (h0 : k0 ≤ k) (h1 : k ≤ k1) (hl : k1 < bs.length) (hd : Sk.dataN s bs (Sk.lastF bs k0) (k1 + 1 - Sk.lastF bs k0) = .good D) (hu : Sk.upto s bs k = .good o) :
    o = Sk.sub D ((Sk.bk bs (Sk.lastF bs k)).frm - (Sk.bk bs (Sk.lastF bs k0)).frm) ((Sk.bk bs k).frm + (Sk.bk bs k).size - (Sk.bk bs (Sk.lastF bs k0)).frm) ∧ (Sk.bk bs (Sk.lastF bs k0)).frm ≤ (Sk.bk bs (Sk.lastF bs k)).frm ∧
      (Sk.bk bs k).frm + (Sk.bk bs k).size ≤ (Sk.bk bs (Sk.lastF bs k0)).frm + D.length := by
  have hfr := hG.lastF_fresh k0 (by omega)
  have hle := Sk.lastF_le bs k0
  obtain ⟨_, e1, e2⟩ := hG.data hfr (k1 + 1 - Sk.lastF bs k0) D (by omega) hd
  have e1 := e1 (by omega)
  have e2 := e2 (k - Sk.lastF bs k0) (by omega)
  rw [show Sk.lastF bs k0 + (k - Sk.lastF bs k0) = k by omega, hu] at e2
  cases e2
  have hge := Sk.lastF_ge bs (Sk.lastF bs k0) hfr (k - Sk.lastF bs k0)
  rw [show Sk.lastF bs k0 + (k - Sk.lastF bs k0) = k by omega] at hge
  have hlk := Sk.lastF_le bs k
  have f1 := hG.frm_le (Sk.lastF bs k0) (Sk.lastF bs k - Sk.lastF bs k0) (by omega)
  rw [show Sk.lastF bs k0 + (Sk.lastF bs k - Sk.lastF bs k0) = Sk.lastF bs k by omega] at f1
  refine ⟨rfl, f1, ?_⟩
  rw [show Sk.lastF bs k0 + (k1 + 1 - Sk.lastF bs k0) - 1 = k1 by omega] at e1
  have := hG.upTo (k := k) (k1 := k1) h1 hl
  omega

/-- How long what a block gives is. -/
theorem Sk.upto_size (hG : Sk.Good s bs d) {k : Nat} {o : List UInt8} (hl : k < bs.length) (hu : Sk.upto s bs k = .good o) :
    o.length + (Sk.bk bs (Sk.lastF bs k)).frm = (Sk.bk bs k).frm + (Sk.bk bs k).size ∧ (Sk.bk bs (Sk.lastF bs k)).frm ≤ (Sk.bk bs k).frm := by
  obtain ⟨D, hd⟩ := Sk.none_bad hG (Nat.le_refl k) hl (fun i h1 h2 => by rw [show i = k by omega]; exact Sk.isBad_of_good hu)
  obtain ⟨e1, e2, e3⟩ := Sk.upto_in hG (Nat.le_refl k) (Nat.le_refl k) hl hd hu
  have hlk := Sk.lastF_le bs k
  have f2 := hG.frm_le (Sk.lastF bs k) (k - Sk.lastF bs k) (by omega)
  rw [show Sk.lastF bs k + (k - Sk.lastF bs k) = k by omega] at f2
  have := congrArg List.length e1
  rw [Sk.sub_length _ _ _ (by omega)] at this
  omega
end

theorem Sk.all_join (s : List UInt8) (a b c : Nat) (h1 : a ≤ b) (h2 : b ≤ c) : Sk.sub s a b ++ Sk.sub s b c = Sk.sub s a c := by
  unfold Sk.sub
  rw [show c - a = (b - a) + (c - b) by omega, List.take_add, List.drop_drop, show a + (b - a) = b by omega]
theorem Sk.all_sub (s : List UInt8) (a b x y : Nat) (h : a + y ≤ b) : Sk.sub (Sk.sub s a b) x y = Sk.sub s (a + x) (a + y) := by
  unfold Sk.sub
  rw [List.drop_take, List.drop_drop, List.take_take]
  congr 1
  omega
end Go.Proofs.YtafkpmjifgohcaaGreatDoor

namespace Go.Proofs.YtafkpmjifgohcaaGreatDoor
open Go.RowKit

theorem results_three3 {fn : Func} {a b c : Tmp} (h : fn.results = #[.tmp a, .tmp b, .tmp c]) (tmps : Array Value) (P : Program) (w : World) :
    (results fn tmps).run P w = .ok (.tuple #[tmps.getD a undef, tmps.getD b undef, tmps.getD c undef]) w := by
  simp [results, h]

set_option maxRecDepth 100000 in
set_option maxHeartbeats 2000000 in
theorem refReadAt_range (w : World) (B h : Nat) (s : ByteArray) (u : Value) (bs : List Sk.Blk) (d : Nat) (f c : Int) (hR : RFile w B h s u bs d) (hd : d ≤ 20000) (hfc : Fits f) (hh : f < 0 ∨ c < 0 ∨ (d : Int) - f < c) :
    Calls Tryz.prog 15 #[.pointer (some ⟨h, 0, none⟩), .int .i64 f, .int .i64 c] w fun e w' => e = .returned (.tuple #[.string ⟨#[]⟩, .int .i64 5, .int .i64 0]) ∧ Below w.heap.size w w' := by
  have hcase : f < 0 ∨ (0 ≤ f ∧ c < 0) ∨ (0 ≤ f ∧ 0 ≤ c ∧ (d : Int) < f) ∨ (0 ≤ f ∧ 0 ≤ c ∧ f ≤ (d : Int) ∧ (d : Int) - f < c) := by omega
  have hf2 : f ≤ 9223372036854775807 := hfc.2
  have c2 := hR.cell 2
  simp at c2
  clear hh hR hfc
  rcases hcase with b1 | ⟨b1, b2⟩ | ⟨b1, b2, b3⟩ | ⟨b1, b2, b3, b4⟩
  all_goals
    go_enter Tryz.func15, Tryz.ntmps15
    go_wp2
    refine bodyPost_ret (results_three3 rfl _ _ _) rfl ?_
    exact ⟨rfl, Below.refl _ _⟩

set_option maxRecDepth 100000 in
set_option maxHeartbeats 2000000 in
theorem refReadAt_zero (w : World) (B h : Nat) (s : ByteArray) (u : Value) (bs : List Sk.Blk) (d f : Nat) (hR : RFile w B h s u bs d) (hd : d ≤ 20000) (hf : f ≤ d) :
    Calls Tryz.prog 15 #[.pointer (some ⟨h, 0, none⟩), .int .i64 f, .int .i64 0] w fun e w' => e = .returned (.tuple #[.string ⟨#[]⟩, .int .i64 0, .int .i64 0]) ∧ Below w.heap.size w w' := by
  have b3 : (0 : Int) ≤ (d : Int) - f := by omega
  have c2 := hR.cell 2
  simp at c2
  clear hR
  go_enter Tryz.func15, Tryz.ntmps15
  go_wp2
  refine bodyPost_ret (results_three3 rfl _ _ _) rfl ?_
  exact ⟨rfl, Below.refl _ _⟩

set_option maxRecDepth 100000 in
set_option maxHeartbeats 4000000 in
theorem refReadAt_any (w : World) (B h : Nat) (s : ByteArray) (u : Value) (bs : List Sk.Blk) (d f c k0 k1 : Nat) (hR : RFile w B h s u bs d) (hG : Sk.Good s.data.toList bs d) (hs : s.size ≤ 65536) (hl : bs.length ≤ 20000) (hc : 0 < c) (hfc : f + c ≤ d)
    (q0 : k0 < bs.length ∧ (Sk.bk bs k0).frm ≤ f ∧ f < (Sk.bk bs k0).frm + (Sk.bk bs k0).size) (q1 : k1 < bs.length ∧ (Sk.bk bs k1).frm ≤ f + c - 1 ∧ f + c - 1 < (Sk.bk bs k1).frm + (Sk.bk bs k1).size) :
    Calls Tryz.prog 15 #[.pointer (some ⟨h, 0, none⟩), .int .i64 f, .int .i64 c] w fun e w' => Below w.heap.size w w' ∧
      (∀ D, Sk.dataN s.data.toList bs (Sk.lastF bs k0) (k1 + 1 - Sk.lastF bs k0) = .good D → e = .returned (.tuple #[.string ⟨(Sk.sub D (f - (Sk.bk bs (Sk.lastF bs k0)).frm) (f - (Sk.bk bs (Sk.lastF bs k0)).frm + c)).toArray⟩, .int .i64 0, .int .i64 0])) ∧
      (∀ why j, Sk.dataN s.data.toList bs (Sk.lastF bs k0) (k1 + 1 - Sk.lastF bs k0) = .bad why j → e = .returned (.tuple #[.string ⟨#[]⟩, .int .i64 why, .int .i64 j])) := by
  obtain ⟨q00, q01, q02⟩ := q0
  obtain ⟨q10, q11, q12⟩ := q1
  have hdd := hG.dat
  have hkk : k0 ≤ k1 := by
    rcases Nat.lt_or_ge k1 k0 with h' | h'
    · have := hG.nxt k1 (by omega)
      have := hG.frm_le (k1 + 1) (k0 - (k1 + 1)) (by omega)
      rw [show k1 + 1 + (k0 - (k1 + 1)) = k0 by omega] at this
      omega
    · exact h'
  have hf0 := hG.frm_le (Sk.lastF bs k0) (k0 - Sk.lastF bs k0) (by have := Sk.lastF_le bs k0; omega)
  rw [show Sk.lastF bs k0 + (k0 - Sk.lastF bs k0) = k0 by have := Sk.lastF_le bs k0; omega] at hf0
  obtain ⟨fr, hfr⟩ : ∃ fr, fr = (Sk.bk bs (Sk.lastF bs k0)).frm := ⟨_, rfl⟩
  rw [← hfr] at hf0
  have HFR : Hid (fr = (Sk.bk bs (Sk.lastF bs k0)).frm) := hfr
  obtain ⟨G, hGo⟩ : ∃ G, G = Sk.dataN s.data.toList bs (Sk.lastF bs k0) (k1 + 1 - Sk.lastF bs k0) := ⟨_, rfl⟩
  rw [← hGo, ← hfr]
  have HGO : Hid (Sk.dataN s.data.toList bs (Sk.lastF bs k0) (k1 + 1 - Sk.lastF bs k0) = G) := hGo.symm
  have HG : Hid (Sk.Good s.data.toList bs d) := hG
  obtain ⟨uo, ucap, rfl⟩ := hR.row.form
  obtain ⟨a, rfl, _⟩ := hR.row.blk k0 q00
  have HR : Hid (RFile w B h s (.slice (some ⟨a, 0, none⟩) bs.length ucap) bs d) := hR
  have c1 := hR.cell 1
  have c2 := hR.cell 2
  simp at c1 c2
  have hlt := hR.lt
  clear hGo hfr hG hR
  have b4 : (c : Int) ≤ (d : Int) - f := by omega
  have b5 : ((c : Int) == 0) = false := by rw [beq_eq_false_iff_ne]; omega
  have b6 : (f : Int) + (c : Int) - 1 = ((f + c - 1 : Nat) : Int) := by omega
  have HO0 : Hid (∀ W, Below w.heap.size w W → Calls Tryz.prog 29 #[.pointer (some ⟨h, 0, none⟩), .int .i64 f] W fun e w' => e = .returned (.int .i64 k0) ∧ Below W.heap.size W w') := fun W hW =>
    refOf_any W B h s _ bs d k0 f (HR.out.below hW) HG.out hl (by omega) ⟨q00, q01, q02⟩
  have HO1 : Hid (∀ W, Below w.heap.size w W → Calls Tryz.prog 29 #[.pointer (some ⟨h, 0, none⟩), .int .i64 ((f : Int) + (c : Int) - 1)] W fun e w' => e = .returned (.int .i64 k1) ∧ Below W.heap.size W w') := fun W hW => by
    rw [b6]
    exact refOf_any W B h s _ bs d k1 (f + c - 1) (HR.out.below hW) HG.out hl (by omega) ⟨q10, q11, q12⟩
  clear b6
  go_enter Tryz.func15, Tryz.ntmps15
  go_wp2_with fail
  refine (HO1.out w (Below.refl _ _)).mono ?_
  rintro e w1 ⟨rfl, hb1⟩
  have HB1 : Hid (Below w.heap.size w w1) := hb1
  clear hb1
  go_wp2_with fail
  refine (HO0.out w1 HB1.out).mono ?_
  rintro e w2 ⟨rfl, hb2⟩
  have HB2 : Hid (Below w.heap.size w w2) := HB1.out.trans (hb2.mono HB1.out.size)
  clear hb2 HO0 HO1 b4 b5 c2
  go_wp2_with fail
  go_loopw [9, 11] (fun x i wr => ∃ (o : ByteArray) (k y : Nat), x = .string o ∧ i = .int .i64 k ∧ Below w.heap.size w wr ∧ k0 ≤ k ∧ k ≤ k1 + 1 ∧ o.size + f = y ∧ (k = k0 → y = f) ∧ (k0 < k → k ≤ k1 → y = (Sk.bk bs k).frm) ∧ (k = k1 + 1 → y = f + c) ∧ (∀ i, k0 ≤ i → i < k → Sk.isBad s.data.toList bs i = false) ∧ ∀ D, G = .good D → o.data.toList = Sk.sub D (f - fr) (y - fr)) (fun _ i _ => k1 + 1 - (intOf i).toNat)
  case atStart => exact ⟨⟨#[]⟩, k0, f, rfl, rfl, HB2.out, Nat.le_refl _, by omega, Nat.zero_add _, fun _ => rfl, fun h => absurd h (Nat.lt_irrefl _), fun h => by omega, fun i h1 h2 => by omega, fun D _ => by rw [Sk.sub_self]⟩
  case round =>
    obtain ⟨o, k, y, rfl, rfl, hbr, hk0, hk1, hoy, y0, y1, y2, hgd, hD⟩ := hrel
    have HB : Hid (Below w.heap.size w wr) := hbr
    have HY0 : Hid (k = k0 → y = f) := y0
    have HY1 : Hid (k0 < k → k ≤ k1 → y = (Sk.bk bs k).frm) := y1
    have HY2 : Hid (k = k1 + 1 → y = f + c) := y2
    have HGD : Hid (∀ i, k0 ≤ i → i < k → Sk.isBad s.data.toList bs i = false) := hgd
    have HD : Hid (∀ D, G = .good D → o.data.toList = Sk.sub D (f - fr) (y - fr)) := hD
    clear hbr y0 y1 y2 hgd hD HB1 HB2
    by_cases hkl : k ≤ k1
    · have kk : (k : Int) < (bs.length : Int) := by omega
      go_wp2_with fail
      refine (refUpto_any wr B h s _ bs d k (HR.out.below HB.out) HG.out hs hl (by omega)).mono ?_
      rintro e w1 ⟨hb1, r0, r1⟩
      have HB1 : Hid (Below w.heap.size w w1) := HB.out.trans (hb1.mono HB.out.size)
      clear hb1
      cases hu : Sk.upto s.data.toList bs k with
      | bad why j =>
        obtain rfl := r1 why j hu
        have hwy := Sk.upto_why7 s.data.toList bs k why j hu
        have hwy0 : ((why : Int) == 0) = false := by rw [beq_eq_false_iff_ne]; omega
        have HGB : Hid (G = .bad why j) := HGO.out.symm.trans (Sk.first_bad HG.out hk0 hkl q10 HGD.out hu)
        clear r0 r1 hu hwy
        go_wp2
        refine bodyPost_ret (results_three3 rfl _ _ _) rfl ?_
        exact ⟨HB1.out, (fun D h => by rw [HGB.out] at h; cases h), fun why' j' h => by rw [HGB.out] at h; cases h; rfl⟩
      | good q =>
        obtain rfl := r0 q hu
        obtain ⟨z1, z2⟩ := Sk.upto_size HG.out (by omega) hu
        have HIN : Hid (∀ D, G = .good D → q = Sk.sub D ((Sk.bk bs (Sk.lastF bs k)).frm - fr) ((Sk.bk bs k).frm + (Sk.bk bs k).size - fr) ∧ fr ≤ (Sk.bk bs (Sk.lastF bs k)).frm ∧ (Sk.bk bs k).frm + (Sk.bk bs k).size ≤ fr + D.length) := fun D h => by
          rw [HFR.out]
          exact Sk.upto_in HG.out hk0 hkl q10 (HGO.out.trans h) hu
        have HNX : Hid (k < k1 → (Sk.bk bs (k + 1)).frm = (Sk.bk bs k).frm + (Sk.bk bs k).size ∧ (Sk.bk bs (k + 1)).frm ≤ f + c - 1) := fun h => by
          have n1 := HG.out.nxt k (by omega)
          have n2 := HG.out.frm_le (k + 1) (k1 - (k + 1)) (by omega)
          rw [show k + 1 + (k1 - (k + 1)) = k1 by omega] at n2
          exact ⟨n1, by omega⟩
        have HGD2 : Hid (∀ i, k0 ≤ i → i < k + 1 → Sk.isBad s.data.toList bs i = false) := fun i h1 h2 => by
          rcases Nat.lt_or_ge i k with h | h
          · exact HGD.out i h1 h
          · rw [show i = k by omega]; exact Sk.isBad_of_good hu
        have hlow : ((Sk.bk bs k).frm < f → y = f) ∧ (f ≤ (Sk.bk bs k).frm → y = (Sk.bk bs k).frm) := by
          rcases Nat.lt_or_ge k0 k with h | h
          · have n1 := HG.out.nxt k0 (by omega)
            have n2 := HG.out.frm_le (k0 + 1) (k - (k0 + 1)) (by omega)
            rw [show k0 + 1 + (k - (k0 + 1)) = k by omega] at n2
            have := HY1.out h hkl
            omega
          · obtain rfl : k = k0 := by omega
            have := HY0.out rfl
            omega
        have hPf : f < (Sk.bk bs k).frm + (Sk.bk bs k).size ∧ (Sk.bk bs k).frm ≤ f + c - 1 := by
          have n3 := HG.out.frm_le k (k1 - k) (by omega)
          rw [show k + (k1 - k) = k1 by omega] at n3
          refine ⟨?_, by omega⟩
          rcases Nat.lt_or_ge k0 k with h | h
          · have n1 := HG.out.nxt k0 (by omega)
            have n2 := HG.out.frm_le (k0 + 1) (k - (k0 + 1)) (by omega)
            rw [show k0 + 1 + (k - (k0 + 1)) = k by omega] at n2
            omega
          · obtain rfl : k = k0 := by omega
            exact q02
        have hhigh : k = k1 → f + c ≤ (Sk.bk bs k).frm + (Sk.bk bs k).size := fun h => by rw [h]; omega
        have hmost := HG.out.most k (by omega)
        obtain ⟨x0, x1⟩ : w1.cell? ⟨a, k * 4, none⟩ = some (.int .i64 (Sk.bk bs k).frm) ∧ w1.cell? ⟨a, k * 4 + 1, none⟩ = some (.int .i64 (Sk.bk bs k).size) := by
          obtain ⟨a', e, h'⟩ := (HR.out.below HB1.out).row.blk k (by omega)
          cases e
          have x0 := h' 0 (by decide)
          have x1 := h' 1 (by decide)
          simp [Sk.Blk.cells] at x0 x1
          exact ⟨x0, x1⟩
        have e1 := (HB1.out.cell (p := ⟨h, 1, none⟩) hlt).trans c1
        have HPZ : Hid ((Sk.bk bs k).frm = (Sk.bk bs k).frm) := rfl
        obtain ⟨P, hP⟩ : ∃ P, P = (Sk.bk bs k).frm := ⟨_, rfl⟩
        obtain ⟨Z, hZ⟩ : ∃ Z, Z = (Sk.bk bs k).size := ⟨_, rfl⟩
        obtain ⟨bg, hbg⟩ : ∃ bg, bg = (Sk.bk bs (Sk.lastF bs k)).frm := ⟨_, rfl⟩
        rw [← hP] at hlow
        rw [← hP, ← hZ] at hPf
        rw [← hP, ← hZ, ← hbg] at z1
        rw [← hP, ← hbg] at z2
        rw [← hP, ← hZ] at hhigh
        rw [← hP, ← hZ] at hmost
        rw [← hP] at x0
        rw [← hZ] at x1
        rw [← hP, ← hZ, ← hbg] at HIN
        rw [← hP, ← hZ] at HNX
        rw [← hbg]
        clear HPZ hP hZ hbg r0 r1 hu
        obtain ⟨Q, hQ⟩ : ∃ Q : ByteArray, Q = ⟨q.toArray⟩ := ⟨_, rfl⟩
        have hQl : Q.data.toList = q := by rw [hQ]
        have hQz : Q.size + bg = P + Z := by
          have : Q.data.toList.length = Q.size := Array.length_toList
          rw [hQl] at this
          omega
        have HQL : Hid (Q.data.toList = q) := hQl
        rw [← hQ]
        clear hQ hQl z1
        obtain ⟨hi, hhi⟩ : ∃ hi, hi = min (f + c) (P + Z) := ⟨_, rfl⟩
        have HREL : Hid (∀ x, x = o ++ Q.extract (y - bg) (hi - bg) → x.size + f = hi ∧ (k + 1 = k0 → hi = f) ∧ (k0 < k + 1 → k + 1 ≤ k1 → hi = (Sk.bk bs (k + 1)).frm) ∧ (k + 1 = k1 + 1 → hi = f + c) ∧ ∀ D, G = .good D → x.data.toList = Sk.sub D (f - fr) (hi - fr)) := by
          rintro x rfl
          have hyh : y ≤ hi := by omega
          refine ⟨?_, fun h => by omega, fun _ h => ?_, fun h => ?_, fun D hg => ?_⟩
          · rw [ByteArray.size_append, ByteArray.size_extract]; omega
          · have := HNX.out (by omega); omega
          · have := hhigh (by omega); omega
          · obtain ⟨j1, j2, j3⟩ := HIN.out D hg
            rw [refExt_app, HD.out D hg, HQL.out, j1, Sk.all_sub _ _ _ _ _ (by omega), show bg - fr + (y - bg) = y - fr by omega, show bg - fr + (hi - bg) = hi - fr by omega, Sk.all_join _ _ _ _ (by omega) (by omega)]
        have hoz : o.size ≤ 20000 := by omega
        have hq1 : P + Z ≤ Q.size + bg := by omega
        have hq2 : Q.size + bg ≤ P + Z := by omega
        have HOY : Hid (o.size + f = y) := hoy
        clear HIN HNX hhigh HQL hQz hoy
        by_cases c1' : P < f
        · have HYL : Hid (y = f) := hlow.1 c1'
          have a1 : (P : Int) < (f : Int) := by omega
          clear hlow
          by_cases c2' : f + c < P + Z
          · have HHI : Hid (hi = f + c) := by show hi = _; omega
            have a2 : (f : Int) + (c : Int) < (P : Int) + (Z : Int) := by omega
            clear hhi
            go_wp2
            go_roundw
            case rel =>
              obtain ⟨h1, h2, h3, h4, h5⟩ := HREL.out _ (by rw [HYL.out, HHI.out])
              exact ⟨_, k + 1, hi, rfl, by go_num, HB1.out, by omega, by omega, h1, h2, h3, h4, HGD2.out, h5⟩
            case measure => simp [intOf]; omega
          · have HHI : Hid (hi = P + Z) := by show hi = _; omega
            have a2 : (P : Int) + (Z : Int) ≤ (f : Int) + (c : Int) := by omega
            clear hhi
            go_wp2
            go_roundw
            case rel =>
              obtain ⟨h1, h2, h3, h4, h5⟩ := HREL.out _ (by rw [HYL.out, HHI.out])
              exact ⟨_, k + 1, hi, rfl, by go_num, HB1.out, by omega, by omega, h1, h2, h3, h4, HGD2.out, h5⟩
            case measure => simp [intOf]; omega
        · have HYL : Hid (y = P) := hlow.2 (by omega)
          have a1 : (f : Int) ≤ (P : Int) := by omega
          clear hlow
          by_cases c2' : f + c < P + Z
          · have HHI : Hid (hi = f + c) := by show hi = _; omega
            have a2 : (f : Int) + (c : Int) < (P : Int) + (Z : Int) := by omega
            clear hhi
            go_wp2
            go_roundw
            case rel =>
              obtain ⟨h1, h2, h3, h4, h5⟩ := HREL.out _ (by rw [HYL.out, HHI.out])
              exact ⟨_, k + 1, hi, rfl, by go_num, HB1.out, by omega, by omega, h1, h2, h3, h4, HGD2.out, h5⟩
            case measure => simp [intOf]; omega
          · have HHI : Hid (hi = P + Z) := by show hi = _; omega
            have a2 : (P : Int) + (Z : Int) ≤ (f : Int) + (c : Int) := by omega
            clear hhi
            go_wp2
            go_roundw
            case rel =>
              obtain ⟨h1, h2, h3, h4, h5⟩ := HREL.out _ (by rw [HYL.out, HHI.out])
              exact ⟨_, k + 1, hi, rfl, by go_num, HB1.out, by omega, by omega, h1, h2, h3, h4, HGD2.out, h5⟩
            case measure => simp [intOf]; omega
    · obtain rfl : k = k1 + 1 := by omega
      have kk : (k1 : Int) < (k1 : Int) + 1 := by omega
      obtain ⟨D, hDD⟩ := Sk.none_bad HG.out hkk q10 (fun i h1 h2 => HGD.out i h1 (by omega))
      have HGG : Hid (G = .good D) := HGO.out.symm.trans hDD
      have HOD : Hid (o = ⟨(Sk.sub D (f - fr) (f - fr + c)).toArray⟩) := by
        show o = _
        have h1 := HD.out D HGG.out
        rw [HY2.out rfl, show f + c - fr = f - fr + c by omega] at h1
        apply ByteArray.ext
        apply Array.ext'
        rw [h1]
      clear hDD
      go_wp2
      refine bodyPost_ret (results_three3 rfl _ _ _) rfl ?_
      refine ⟨HB.out, (fun D' h => ?_), fun why' j' h => by rw [HGG.out] at h; cases h⟩
      rw [HGG.out] at h
      cases h
      rw [← HOD.out]
      rfl
end Go.Proofs.YtafkpmjifgohcaaGreatDoor

namespace Go.Proofs.YtafkpmjifgohcaaGreatDoor
open Go.RowKit

set_option maxRecDepth 100000 in
set_option maxHeartbeats 4000000 in
theorem refCheck_any (w : World) (B h : Nat) (s : ByteArray) (u : Value) (bs : List Sk.Blk) (d : Nat) (hR : RFile w B h s u bs d) (hG : Sk.Good s.data.toList bs d) (hs : s.size ≤ 65536) (hl : bs.length ≤ 20000) :
    Calls Tryz.prog 33 #[.pointer (some ⟨h, 0, none⟩)] w fun e w' => ∃ l, e = .returned l ∧ Rw w' 1 l (Sk.badL s.data.toList bs bs.length).length ((Sk.badL s.data.toList bs bs.length).map fun k : Nat => Value.int .i64 k) ∧ Gr w (.slice none 0 0) w' l := by
  obtain ⟨uo, ucap, rfl⟩ := hR.row.form
  have c1 := hR.cell 1
  simp at c1
  have hlt := hR.lt
  have HR : Hid (RFile w B h s (.slice uo bs.length ucap) bs d) := hR
  have HG : Hid (Sk.Good s.data.toList bs d) := hG
  clear hR hG
  go_enter Tryz.func33, Tryz.ntmps33
  go_wp2
  go_loopw [3, 4] (fun x i wr => ∃ k : Nat, ∃ yo yc, k ≤ bs.length ∧ i = .int .i64 k ∧ x = .slice yo (Sk.badL s.data.toList bs k).length yc ∧ Rw wr 1 x (Sk.badL s.data.toList bs k).length ((Sk.badL s.data.toList bs k).map fun k : Nat => Value.int .i64 k) ∧ Gr w (.slice none 0 0) wr x) (fun _ i _ => bs.length - (intOf i).toNat)
  case atStart => exact ⟨0, none, 0, Nat.zero_le _, rfl, rfl, Rw.nil _ _, Gr.refl _ _⟩
  case round =>
    obtain ⟨k, yo, yc, hk, rfl, rfl, hR2, hGr2⟩ := hrel
    have hbk := Sk.badL_length s.data.toList bs k
    have HBE : Hid (Below w.heap.size w wr) := gr_nil_below hGr2
    have HR2 : Hid (Rw wr 1 (.slice yo (Sk.badL s.data.toList bs k).length yc) (Sk.badL s.data.toList bs k).length ((Sk.badL s.data.toList bs k).map fun k : Nat => Value.int .i64 k)) := hR2
    have HGR2 : Hid (Gr w (.slice none 0 0) wr (.slice yo (Sk.badL s.data.toList bs k).length yc)) := hGr2
    clear hR2 hGr2
    have e1 := (HBE.out.cell (p := ⟨h, 1, none⟩) hlt).trans c1
    by_cases hkl : k < bs.length
    · have kk : (k : Int) < (bs.length : Int) := by omega
      obtain ⟨L, hL⟩ : ∃ L, L = Sk.badL s.data.toList bs k := ⟨_, rfl⟩
      rw [← hL] at HR2 HGR2 hbk ⊢
      have HL : Hid (Sk.badL s.data.toList bs k = L) := hL.symm
      clear hL
      go_wp2_with fail
      refine (refUpto_any wr B h s _ bs d k (HR.out.below HBE.out) HG.out hs hl hkl).mono ?_
      rintro e w1 ⟨hb1, r0, r1⟩
      have HB1 : Hid (Below wr.heap.size wr w1) := hb1
      clear hb1
      cases hu : Sk.upto s.data.toList bs k with
      | good o =>
        obtain rfl := r0 o hu
        have HBL : Hid (Sk.badL s.data.toList bs (k + 1) = L) := (Sk.badL_good (Sk.isBad_of_good hu)).trans HL.out
        clear r0 r1 hu
        go_wp2
        go_roundw
        case rel => exact ⟨k + 1, yo, yc, by omega, by go_num, by rw [HBL.out], by rw [HBL.out]; exact HR2.out.below HB1.out, HGR2.out.then_below HB1.out⟩
        case measure => simp [intOf]; omega
      | bad why j =>
        obtain rfl := r1 why j hu
        have hwy := Sk.upto_why7 s.data.toList bs k why j hu
        have hwy0 : ((why : Int) == 0) = false := by rw [beq_eq_false_iff_ne]; omega
        have HBK : Hid (Sk.badL s.data.toList bs (k + 1) = L ++ [k]) := by
          have := Sk.badL_bad (Sk.isBad_of_bad hu)
          rw [HL.out] at this
          exact this
        clear r0 r1 hu hwy
        have HRA : Hid (Rw (w1.alloc (.cells #[.int .i64 k] 3)) 1 (.slice yo L.length yc) L.length (L.map fun k : Nat => Value.int .i64 k)) := (HR2.out.below HB1.out).below ((Below.refl _ _).alloc (Nat.le_refl _) _)
        have HSA : Hid (Src Tryz.prog 1 28 (.slice (some ⟨w1.heap.size, 0, none⟩) 1 1) 1 [.int .i64 k] (w1.alloc (.cells #[.int .i64 k] 3))) := srcR_new w1 28 3 Tryz.underlying28 #[.int .i64 k] 1 1 rfl (by intro u hu; simp at hu; subst hu; rfl)
        go_wp2_with (at_builtin; refine wpList_append_rw rfl (.tmp 28) (.tmp 30) 28 28 rfl 3 _ 1 8 Tryz.underlying28 Tryz.infoI rfl (.slice yo L.length yc) (.slice (some ⟨w1.heap.size, 0, none⟩) 1 1) L.length 1 (L.map fun k : Nat => Value.int .i64 k) [.int .i64 k] rfl rfl HRA.out HSA.out (by decide) (by omega) (by omega) ?_; intro g5 cap5 w5 hr5 hg5 hp5; have HR5 : Hid (Rw w5 1 (.slice (some ⟨g5, 0, none⟩) (L.length + 1) cap5) (L.length + 1) ((L.map fun k : Nat => Value.int .i64 k) ++ [.int .i64 k])) := hr5; have HG5 : Hid (Gr w (.slice none 0 0) w5 (.slice (some ⟨g5, 0, none⟩) (L.length + 1) cap5)) := ((HGR2.out.then_below HB1.out).then_below ((Below.refl _ _).alloc (Nat.le_refl _) _)).trans hg5; clear hr5 hg5 hp5)
        go_roundw
        case rel => exact ⟨k + 1, some ⟨g5, 0, none⟩, cap5, by omega, by go_num, by rw [HBK.out, List.length_append]; rfl, by rw [HBK.out, List.length_append, List.map_append]; exact HR5.out, HG5.out⟩
        case measure => simp [intOf]; omega
    · obtain rfl : k = bs.length := by omega
      go_wp2
      go_ret
      exact ⟨_, rfl, HR2.out, HGR2.out⟩
end Go.Proofs.YtafkpmjifgohcaaGreatDoor
