/- (*File).unpackEach, walked: whatever it yields to, the data of the blocks in a row, or the first bad block. -/
import Derived.Test.YtafkpmjifgohcaaDoorLocalPart2
import Derived.Test.YtafkpmjifgohcaaDoorLocalPart3
import Derived.Test.YtafkpmjifgohcaaDoorLocalPart6
import Derived.Test.YtafkpmjifgohcaaDoorLocalPart7
import Derived.Test.YtafkpmjifgohcaaDoorLocalPart8
namespace Go.Proofs.YtafkpmjifgohcaaDoor
open Go.RowKit

section
variable {s : List UInt8} {bs : List Sk.Blk} {d : Nat}
theorem Sk.dataN_upto {first M : Nat} {D : List UInt8} (h : Sk.dataN s bs first M = .good D) (m : Nat) (hm : m ≤ M) : ∃ D', Sk.dataN s bs first m = .good D' := by
  cases hd : Sk.dataN s bs first m with
  | good D' => exact ⟨D', rfl⟩
  | bad w j =>
    have := Sk.dataN_stay hd (M - m)
    rw [show m + (M - m) = M by omega, h] at this
    cases this

/-- One block more. -/
theorem Sk.dataN_more {first m : Nat} {pre out out' o : List UInt8} {pre' : List UInt8} (h : Sk.dataN s bs first m = .good (pre ++ out)) (hp : pre' ++ out' = pre ++ out) (hu : Sk.upto s bs (first + m) = .good o) (ha : Sk.atB s (Sk.bk bs (first + m)) (first + m) out' = .good o) : Sk.dataN s bs first (m + 1) = .good (pre' ++ o) := by
  obtain ⟨t, rfl, ht⟩ := Sk.atB_good ha
  rw [Sk.dataN_step h, hu]
  dsimp only
  rw [List.length_append, ht, Nat.add_sub_cancel, List.drop_left, ← hp, List.append_assoc]

theorem Sk.Good.le (h : Sk.Good s bs d) (k : Nat) (hk : k < bs.length) : (Sk.bk bs k).frm + (Sk.bk bs k).size ≤ d := by
  have hlast := h.lst (bs.length - 1) (by omega)
  by_cases hl : k + 1 < bs.length
  · have h1 := h.nxt k hl
    have h2 := h.frm_le (k + 1) (bs.length - 1 - (k + 1)) (by omega)
    rw [show k + 1 + (bs.length - 1 - (k + 1)) = bs.length - 1 by omega] at h2
    omega
  · rw [show k = bs.length - 1 by omega]
    omega
end

/-- A block that is bad is told in the data. -/
theorem Sk.dataN_told {s : List UInt8} {bs : List Sk.Blk} {first m M why j : Nat} {D : List UInt8} (h : Sk.dataN s bs first m = .good D) (hu : Sk.upto s bs (first + m) = .bad why j) (hm : m < M) : Sk.dataN s bs first M = .bad why j := by
  have h1 : Sk.dataN s bs first (m + 1) = .bad why j := by rw [Sk.dataN_step h, hu]
  have := Sk.dataN_stay h1 (M - (m + 1))
  rwa [show m + 1 + (M - (m + 1)) = M by omega] at this

/-- The two errors that damage wraps, in blocks that were there. -/
structure SentW (w : World) (A : Nat → Addr) (B : Nat) : Prop where
  c5 : w.cell? ⟨5, 0, none⟩ = some (.iface 170 (.pointer (some (A 5))))
  c6 : w.cell? ⟨6, 0, none⟩ = some (.iface 170 (.pointer (some (A 6))))
  apart : A 6 ≠ A 5
  p5 : ∃ c t, w.heap[(A 5).block]? = some (.cells c t (0, 0))
  p6 : ∃ c t, w.heap[(A 6).block]? = some (.cells c t (0, 0))
  l : 7 ≤ B
  a5 : (A 5).block < B
  a6 : (A 6).block < B

theorem SentW.below {w w' : World} {A : Nat → Addr} {B : Nat} (h : SentW w A B) (hb : Below B w w') : SentW w' A B := by
  have hl := h.l
  obtain ⟨c, t, e⟩ := h.p5
  obtain ⟨c', t', e'⟩ := h.p6
  exact ⟨(hb.cell (p := ⟨5, 0, none⟩) (by show 5 < B; omega)).trans h.c5, (hb.cell (p := ⟨6, 0, none⟩) (by show 6 < B; omega)).trans h.c6, h.apart, ⟨c, t, (hb.block _ h.a5).trans e⟩, ⟨c', t', (hb.block _ h.a6).trans e'⟩, h.l, h.a5, h.a6⟩

theorem SentB.w {w : World} {A : Nat → Addr} {B : Nat} (h : SentB w A B) : SentW w A B :=
  ⟨h.s.cell 5 (by decide), h.s.cell 6 (by decide), h.s.apart 6 5 (by decide) (by decide) (by decide), h.s.plain 5 (by decide), h.s.plain 6 (by decide), h.l, h.a 5 (by decide), h.a 6 (by decide)⟩

/-- damaged, behind a block that is bad. -/
theorem damaged_any (n : Nat) (A : Nat → Addr) (B : Nat) (f : Value) (why : Nat) (w : World) (hS : SentW w A B) (hf : (why = 6 ∧ f = .iface 170 (.pointer (some (A 5)))) ∨ (why = 7 ∧ ∃ h, f = .iface 161 (.pointer (some ⟨h, 0, none⟩)))) :
    Calls Tryd.prog 73 #[.int .i64 n, f] w fun e w' => ∃ v, e = .returned v ∧ BadErr w' w.heap.size v n (A (why - 1)) ∧ Below w.heap.size w w' := by
  rcases hf with ⟨rfl, rfl⟩ | ⟨rfl, h, rfl⟩
  · exact damaged_sum n (A 5) (A 6) w hS.c5 hS.c6
  · obtain ⟨ca, ta, ea⟩ := hS.p6
    obtain ⟨cb, tb, eb⟩ := hS.p5
    exact damaged_tok n h (A 5) (A 6) ca cb ta tb w hS.c5 hS.c6 hS.apart ea eb

set_option maxRecDepth 100000 in
set_option maxHeartbeats 4000000 in
theorem unpackEach_any (B g : Nat) (s : ByteArray) (v : Value) (bs : List Sk.Blk) (d first last : Nat) (A : Nat → Addr) (Bs : Nat) (Y : Nat) (caps : Array Value) (J : Nat → World → Value → Prop) (Post : Ending → World → Prop) (w : World) (hG : Sk.Good s.data.toList bs d) (hs : s.size ≤ 65536) (hl : bs.length ≤ 20000) (hfl : first ≤ last) (hlb : last < bs.length) (hfr : (Sk.bk bs first).fresh = true)
    (eY : ∀ args w, (callFunc Y args).run Tryd.prog w = .ok (.enter Y args) w)
    (j0 : J 0 w (.slice none 0 0))
    (jP : ∀ m wr x, J m wr x → PFile wr B g s v bs d ∧ wr.cell? ⟨5, 0, none⟩ = some (.iface 170 (.pointer (some (A 5)))))
    (jS : ∀ m wr x, J m wr x → (∃ why k, Sk.dataN s.data.toList bs first (last + 1 - first) = .bad why k) → SentW wr A Bs ∧ Bs ≤ wr.heap.size ∧ ∀ k, x.ownBlock = some k → Bs ≤ k)
    (jY : ∀ m wr x w1 x' D, m < last + 1 - first → J m wr x → Gr wr x w1 x' → Bts w1 x' D → Sk.dataN s.data.toList bs first (m + 1) = .good D →
      Calls Tryd.prog Y (#[.int .i64 ((first : Int) + (m : Int)), x'] ++ caps) w1 fun e w2 => (e = .returned (.bool true) ∧ Bts w2 x' D ∧ J (m + 1) w2 x') ∨ (e = .returned (.bool false) ∧ Post (.returned .nilIface) w2))
    (pG : ∀ wr x D, J (last + 1 - first) wr x → Bts wr x D → Sk.dataN s.data.toList bs first (last + 1 - first) = .good D → Post (.returned .nilIface) wr)
    (pB : ∀ m wr x w1 y w2 vb why D, m < last + 1 - first → J m wr x → Sk.dataN s.data.toList bs first m = .good D → Sk.upto s.data.toList bs (first + m) = .bad why (first + m) → Gr wr x w1 y → Below w1.heap.size w1 w2 → BadErr w2 w1.heap.size vb (first + m) (A (why - 1)) → Post (.returned vb) w2) :
    Calls Tryd.prog 54 #[.pointer (some ⟨g, 0, none⟩), .int .i64 first, .int .i64 last, .func (.func Y) #[] caps] w Post := by
  have HG : Hid (Sk.Good s.data.toList bs d) := hG
  have HFR : Hid ((Sk.bk bs first).fresh = true) := hfr
  have HJP : Hid (∀ m wr x, J m wr x → PFile wr B g s v bs d ∧ wr.cell? ⟨5, 0, none⟩ = some (.iface 170 (.pointer (some (A 5))))) := jP
  have HJS : Hid (∀ m wr x, J m wr x → (∃ why k, Sk.dataN s.data.toList bs first (last + 1 - first) = .bad why k) → SentW wr A Bs ∧ Bs ≤ wr.heap.size ∧ ∀ k, x.ownBlock = some k → Bs ≤ k) := jS
  have HJY : Hid (∀ m wr x w1 x' D, m < last + 1 - first → J m wr x → Gr wr x w1 x' → Bts w1 x' D → Sk.dataN s.data.toList bs first (m + 1) = .good D →
      Calls Tryd.prog Y (#[.int .i64 ((first : Int) + (m : Int)), x'] ++ caps) w1 fun e w2 => (e = .returned (.bool true) ∧ Bts w2 x' D ∧ J (m + 1) w2 x') ∨ (e = .returned (.bool false) ∧ Post (.returned .nilIface) w2)) := jY
  have HPG : Hid (∀ wr x D, J (last + 1 - first) wr x → Bts wr x D → Sk.dataN s.data.toList bs first (last + 1 - first) = .good D → Post (.returned .nilIface) wr) := pG
  have HPB : Hid (∀ m wr x w1 y w2 vb why D, m < last + 1 - first → J m wr x → Sk.dataN s.data.toList bs first m = .good D → Sk.upto s.data.toList bs (first + m) = .bad why (first + m) → Gr wr x w1 y → Below w1.heap.size w1 w2 → BadErr w2 w1.heap.size vb (first + m) (A (why - 1)) → Post (.returned vb) w2) := pB
  have HJ0 : Hid (J 0 w (.slice none 0 0)) := j0
  clear hG hfr jP jS jY pG pB j0
  go_enter Tryd.func54, Tryd.ntmps54
  go_wp2
  go_loopw [9, 10, 11] (fun x r i wr => ∃ m : Nat, ∃ pre out xo xc, m ≤ last + 1 - first ∧ x = .slice xo (pre.length + out.length) xc ∧ r = .int .i64 pre.length ∧ i = .int .i64 ((first : Int) + m) ∧ Bts wr x (pre ++ out) ∧ J m wr x ∧ pre.length + out.length ≤ 20000 ∧ Sk.dataN s.data.toList bs first m = .good (pre ++ out) ∧ (0 < m → Sk.upto s.data.toList bs (first + m - 1) = .good out) ∧ (m = 0 → pre = [] ∧ out = [])) (fun _ _ i _ => last + 1 - (intOf i).toNat)
  case atStart => exact ⟨0, [], [], none, 0, by omega, rfl, rfl, by go_num, Bts.nil _, HJ0.out, by decide, rfl, (fun h => absurd h (by decide)), fun _ => ⟨rfl, rfl⟩⟩
  case round =>
    obtain ⟨m, pre, out, xo, xc, hm, rfl, rfl, rfl, hB, hJ, hle, hd, hu, h0⟩ := hrel
    have HB : Hid (Bts wr (.slice xo (pre.length + out.length) xc) (pre ++ out)) := hB
    have HJ : Hid (J m wr (.slice xo (pre.length + out.length) xc)) := hJ
    have HDM : Hid (Sk.dataN s.data.toList bs first m = .good (pre ++ out)) := hd
    have HU : Hid (0 < m → Sk.upto s.data.toList bs (first + m - 1) = .good out) := hu
    have H0 : Hid (m = 0 → pre = [] ∧ out = []) := h0
    clear hB hJ hd hu h0
    by_cases hlt : m < last + 1 - first
    · obtain ⟨hPr, h5r⟩ := HJP.out m wr _ HJ.out
      obtain ⟨vo, vcap, e⟩ := hPr.row.form
      subst e
      have c0 := hPr.cell 0
      simp at c0
      obtain ⟨a, rfl, ha, hc⟩ := hPr.entry (first + m) (by omega)
      have x3 := hc 3 (by decide)
      simp [Sk.cells6] at x3
      have HPR : Hid (PFile wr B g s (.slice (some ⟨a, 0, none⟩) bs.length vcap) bs d) := hPr
      have H5 : Hid (wr.cell? ⟨5, 0, none⟩ = some (.iface 170 (.pointer (some (A 5))))) := h5r
      clear hc hPr h5r
      have hii : (first : Int) + m ≤ (last : Int) := by omega
      have kk : (first : Int) + m < (bs.length : Int) := by omega
      have k0 : (0 : Int) ≤ (first : Int) + m := by omega
      cases hf : (Sk.bk bs (first + m)).fresh with
      | true =>
        rw [hf] at x3
        have HUA : Hid (Sk.upto s.data.toList bs (first + m) = Sk.atB s.data.toList (Sk.bk bs (first + m)) (first + m) []) := Sk.upto_fresh _ _ _ hf
        clear hf
        go_wp2_with fail
        rw [show (first : Int) + (m : Int) = ((first + m : Nat) : Int) by omega]
        have hcall := unpackBlock_any B g s _ bs d (.slice xo (pre.length + out.length) xc) (pre ++ out) [] (first + m) (A 5) wr HPR.out HG.out hs (by omega) (by rw [List.append_nil]; exact HB.out) (by rw [List.length_append]; simp; omega) H5.out
        rw [List.length_append, show ((pre.length + out.length : Nat) : Int) = (pre.length : Int) + out.length by omega] at hcall
        refine hcall.mono ?_
        clear hcall
        rintro e w1 ⟨r0, r6, r7⟩
        cases hat : Sk.atB s.data.toList (Sk.bk bs (first + m)) (first + m) [] with
        | bad why j =>
          obtain ⟨rfl, hwhy⟩ := Sk.atB_bad hat
          have HRB : Hid (Sk.upto s.data.toList bs (first + m) = .bad why (first + m)) := HUA.out.trans hat
          obtain ⟨f, rfl, hff, y, hgy⟩ : ∃ f, e = .returned (.tuple #[.slice none 0 0, f]) ∧ ((why = 6 ∧ f = .iface 170 (.pointer (some (A 5)))) ∨ (why = 7 ∧ ∃ h, f = .iface 161 (.pointer (some ⟨h, 0, none⟩)))) ∧ ∃ y, Gr wr (.slice xo (pre.length + out.length) xc) w1 y := by
            rcases hwhy with rfl | rfl
            · obtain ⟨h1, h2⟩ := r6 _ hat
              exact ⟨_, h1, .inl ⟨rfl, rfl⟩, _, h2⟩
            · obtain ⟨h, i, v', h1, _, _, h2⟩ := r7 _ hat
              exact ⟨_, h1, .inr ⟨rfl, h, rfl⟩, _, h2⟩
          have HGY : Hid (Gr wr (.slice xo (pre.length + out.length) xc) w1 y) := hgy
          have HFF : Hid ((why = 6 ∧ f = .iface 170 (.pointer (some (A 5)))) ∨ (why = 7 ∧ ∃ h, f = .iface 161 (.pointer (some ⟨h, 0, none⟩)))) := hff
          have hfn : ∃ t x, f = .iface t x := by
            rcases hff with ⟨_, rfl⟩ | ⟨_, h, rfl⟩
            · exact ⟨_, _, rfl⟩
            · exact ⟨_, _, rfl⟩
          obtain ⟨ft, fx, rfl⟩ := hfn
          have HSB : Hid (SentW w1 A Bs) := by
            obtain ⟨h1, h2, h3⟩ := HJS.out _ _ _ HJ.out ⟨why, first + m, Sk.dataN_told HDM.out HRB.out hlt⟩
            exact h1.below (hgy.below h2 h3)
          clear r0 r6 r7 hat hwhy hgy hff
          go_wp2_with fail
          rw [show (first : Int) + (m : Int) = ((first + m : Nat) : Int) by omega]
          refine (damaged_any (first + m) A _ _ why w1 HSB.out HFF.out).mono ?_
          rintro e w2 ⟨vb, rfl, hbad, hb2⟩
          have HBAD : Hid (BadErr w2 w1.heap.size vb (first + m) (A (why - 1))) := hbad
          have HB2 : Hid (Below w1.heap.size w1 w2) := hb2
          clear hbad hb2
          go_wp2
          exact HPB.out _ _ _ _ _ _ _ _ _ hlt HJ.out HDM.out HRB.out HGY.out HB2.out HBAD.out
        | good o =>
        have HUP : Hid (Sk.upto s.data.toList bs (first + m) = .good o) := HUA.out.trans hat
        have HDN : Hid (Sk.dataN s.data.toList bs first (m + 1) = .good ((pre ++ out) ++ o)) := Sk.dataN_more HDM.out (by simp) HUP.out hat
        obtain ⟨v', rfl, hb1, hg1⟩ := r0 o hat
        obtain ⟨xo2, xc2, e2⟩ := hb1.form
        obtain ⟨L, hL⟩ : ∃ L : Nat, L = ((pre ++ out) ++ o).length := ⟨_, rfl⟩
        rw [← hL] at e2
        subst e2
        have hyc := HJY.out m wr _ w1 _ _ hlt HJ.out hg1 hb1 HDN.out
        have HYC : Hid (Calls Tryd.prog Y (#[.int .i64 ((first : Int) + (m : Int)), .slice xo2 L xc2] ++ caps) w1 fun e w2 => (e = .returned (.bool true) ∧ Bts w2 (.slice xo2 L xc2) ((pre ++ out) ++ o) ∧ J (m + 1) w2 (.slice xo2 L xc2)) ∨ (e = .returned (.bool false) ∧ Post (.returned .nilIface) w2)) := hyc
        have HL : Hid (L = ((pre ++ out) ++ o).length) := hL
        clear r0 r6 r7 hb1 hg1 hat hyc hL
        go_wp2_with fail
        refine HYC.out.mono ?_
        rintro e w2 (⟨rfl, hb2, hj2⟩ | ⟨rfl, hpost⟩)
        · have HB2 : Hid (Bts w2 (.slice xo2 L xc2) ((pre ++ out) ++ o)) := hb2
          have HJ2 : Hid (J (m + 1) w2 (.slice xo2 L xc2)) := hj2
          clear hb2 hj2
          go_wp2
          go_roundw
          case rel =>
            have hdat := (HG.out.data HFR.out (m + 1) _ (by omega) HDN.out).2.1 (by omega)
            have hle2 : (Sk.bk bs (first + (m + 1) - 1)).frm + (Sk.bk bs (first + (m + 1) - 1)).size ≤ d := HG.out.le _ (by omega)
            have hd2 := HG.out.dat
            refine ⟨m + 1, pre ++ out, o, xo2, xc2, by omega, by rw [HL.out, List.length_append], by simp [List.length_append], by go_num, HB2.out, HJ2.out, by rw [← List.length_append]; omega, HDN.out, fun _ => by rw [show first + (m + 1) - 1 = first + m by omega]; exact HUP.out, fun h => by omega⟩
          case measure => simp [intOf]; omega
        · have HPO : Hid (Post (.returned .nilIface) w2) := hpost
          clear hpost
          go_wp2
          exact HPO.out
      | false =>
        rw [hf] at x3
        have hm0 : 0 < m := by
          rcases Nat.eq_zero_or_pos m with e | e
          · subst e; rw [Nat.add_zero, HFR.out] at hf; cases hf
          · exact e
        have HUA : Hid (Sk.upto s.data.toList bs (first + m) = Sk.atB s.data.toList (Sk.bk bs (first + m)) (first + m) out) := by
          have h1 := HU.out hm0
          have e : first + m - 1 + 1 = first + m := by omega
          show _ = _
          rw [← e] at hf ⊢
          exact Sk.upto_step _ _ _ hf _ h1
        clear hf
        go_wp2_with fail
        rw [show (first : Int) + (m : Int) = ((first + m : Nat) : Int) by omega]
        refine (unpackBlock_any B g s _ bs d (.slice xo (pre.length + out.length) xc) pre out (first + m) (A 5) wr HPR.out HG.out hs (by omega) HB.out (by omega) H5.out).mono ?_
        rintro e w1 ⟨r0, r6, r7⟩
        cases hat : Sk.atB s.data.toList (Sk.bk bs (first + m)) (first + m) out with
        | bad why j =>
          obtain ⟨rfl, hwhy⟩ := Sk.atB_bad hat
          have HRB : Hid (Sk.upto s.data.toList bs (first + m) = .bad why (first + m)) := HUA.out.trans hat
          obtain ⟨f, rfl, hff, y, hgy⟩ : ∃ f, e = .returned (.tuple #[.slice none 0 0, f]) ∧ ((why = 6 ∧ f = .iface 170 (.pointer (some (A 5)))) ∨ (why = 7 ∧ ∃ h, f = .iface 161 (.pointer (some ⟨h, 0, none⟩)))) ∧ ∃ y, Gr wr (.slice xo (pre.length + out.length) xc) w1 y := by
            rcases hwhy with rfl | rfl
            · obtain ⟨h1, h2⟩ := r6 _ hat
              exact ⟨_, h1, .inl ⟨rfl, rfl⟩, _, h2⟩
            · obtain ⟨h, i, v', h1, _, _, h2⟩ := r7 _ hat
              exact ⟨_, h1, .inr ⟨rfl, h, rfl⟩, _, h2⟩
          have HGY : Hid (Gr wr (.slice xo (pre.length + out.length) xc) w1 y) := hgy
          have HFF : Hid ((why = 6 ∧ f = .iface 170 (.pointer (some (A 5)))) ∨ (why = 7 ∧ ∃ h, f = .iface 161 (.pointer (some ⟨h, 0, none⟩)))) := hff
          have hfn : ∃ t x, f = .iface t x := by
            rcases hff with ⟨_, rfl⟩ | ⟨_, h, rfl⟩
            · exact ⟨_, _, rfl⟩
            · exact ⟨_, _, rfl⟩
          obtain ⟨ft, fx, rfl⟩ := hfn
          have HSB : Hid (SentW w1 A Bs) := by
            obtain ⟨h1, h2, h3⟩ := HJS.out _ _ _ HJ.out ⟨why, first + m, Sk.dataN_told HDM.out HRB.out hlt⟩
            exact h1.below (hgy.below h2 h3)
          clear r0 r6 r7 hat hwhy hgy hff
          go_wp2_with fail
          rw [show (first : Int) + (m : Int) = ((first + m : Nat) : Int) by omega]
          refine (damaged_any (first + m) A _ _ why w1 HSB.out HFF.out).mono ?_
          rintro e w2 ⟨vb, rfl, hbad, hb2⟩
          have HBAD : Hid (BadErr w2 w1.heap.size vb (first + m) (A (why - 1))) := hbad
          have HB2 : Hid (Below w1.heap.size w1 w2) := hb2
          clear hbad hb2
          go_wp2
          exact HPB.out _ _ _ _ _ _ _ _ _ hlt HJ.out HDM.out HRB.out HGY.out HB2.out HBAD.out
        | good o =>
        have HUP : Hid (Sk.upto s.data.toList bs (first + m) = .good o) := HUA.out.trans hat
        have HDN : Hid (Sk.dataN s.data.toList bs first (m + 1) = .good (pre ++ o)) := Sk.dataN_more HDM.out (rfl) HUP.out hat
        obtain ⟨v', rfl, hb1, hg1⟩ := r0 o hat
        obtain ⟨xo2, xc2, e2⟩ := hb1.form
        obtain ⟨L, hL⟩ : ∃ L : Nat, L = (pre ++ o).length := ⟨_, rfl⟩
        rw [← hL] at e2
        subst e2
        have hyc := HJY.out m wr _ w1 _ _ hlt HJ.out hg1 hb1 HDN.out
        have HYC : Hid (Calls Tryd.prog Y (#[.int .i64 ((first : Int) + (m : Int)), .slice xo2 L xc2] ++ caps) w1 fun e w2 => (e = .returned (.bool true) ∧ Bts w2 (.slice xo2 L xc2) (pre ++ o) ∧ J (m + 1) w2 (.slice xo2 L xc2)) ∨ (e = .returned (.bool false) ∧ Post (.returned .nilIface) w2)) := hyc
        have HL : Hid (L = (pre ++ o).length) := hL
        clear r0 r6 r7 hb1 hg1 hat hyc hL
        go_wp2_with fail
        refine HYC.out.mono ?_
        rintro e w2 (⟨rfl, hb2, hj2⟩ | ⟨rfl, hpost⟩)
        · have HB2 : Hid (Bts w2 (.slice xo2 L xc2) (pre ++ o)) := hb2
          have HJ2 : Hid (J (m + 1) w2 (.slice xo2 L xc2)) := hj2
          clear hb2 hj2
          go_wp2
          go_roundw
          case rel =>
            have hdat := (HG.out.data HFR.out (m + 1) _ (by omega) HDN.out).2.1 (by omega)
            have hle2 : (Sk.bk bs (first + (m + 1) - 1)).frm + (Sk.bk bs (first + (m + 1) - 1)).size ≤ d := HG.out.le _ (by omega)
            have hd2 := HG.out.dat
            refine ⟨m + 1, pre, o, xo2, xc2, by omega, by rw [HL.out, List.length_append], rfl, by go_num, HB2.out, HJ2.out, by rw [← List.length_append]; omega, HDN.out, fun _ => by rw [show first + (m + 1) - 1 = first + m by omega]; exact HUP.out, fun h => by omega⟩
          case measure => simp [intOf]; omega
        · have HPO : Hid (Post (.returned .nilIface) w2) := hpost
          clear hpost
          go_wp2
          exact HPO.out
    · obtain rfl : m = last + 1 - first := by omega
      have hii : (last : Int) < (first : Int) + ((last + 1 - first : Nat) : Int) := by omega
      go_wp2
      exact HPG.out _ _ _ HJ.out HB.out HDM.out
end Go.Proofs.YtafkpmjifgohcaaDoor
