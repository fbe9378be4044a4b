/- nextFresh and Check, walked. -/
import Derived.Test.YtafkpmjifgohcaaDoorLocalPart10
import Derived.Test.YtafkpmjifgohcaaDoorRowB
namespace Go.Proofs.YtafkpmjifgohcaaDoor
open Go.RowKit

set_option maxHeartbeats 2000000 in
theorem nextFresh_any (w : World) (B g : Nat) (s : ByteArray) (v : Value) (bs : List Sk.Blk) (d n : Nat) (h : PFile w B g s v bs d) (hn : n < bs.length) (hl : bs.length ≤ 20000) :
    Calls Tryd.prog 41 #[.pointer (some ⟨g, 0, none⟩), .int .i64 n] w fun e w' => ∃ m : Nat, e = .returned (.int .i64 m) ∧ w' = w ∧ n < m ∧ m ≤ bs.length ∧ (m < bs.length → (Sk.bk bs m).fresh = true) ∧ ∀ i, n < i → i < m → (Sk.bk bs i).fresh = false := by
  obtain ⟨vo, vcap, rfl⟩ := h.row.form
  have HP : Hid (PFile w B g s (.slice vo bs.length vcap) bs d) := h
  have c0 := h.cell 0
  simp at c0
  clear h
  go_enter Tryd.func41, Tryd.ntmps41
  go_wp2
  go_loop [1] (fun i => ∃ j : Nat, n < j ∧ j ≤ bs.length ∧ i = .int .i64 j ∧ ∀ i, n < i → i < j → (Sk.bk bs i).fresh = false) (fun i => bs.length - (intOf i).toNat)
  case atStart => exact ⟨n + 1, by omega, by omega, by go_num, fun i h1 h2 => by omega⟩
  case round =>
    obtain ⟨j, hj, hjl, rfl, hinv⟩ := hrel
    have HI : Hid (∀ i, n < i → i < j → (Sk.bk bs i).fresh = false) := hinv
    clear hinv
    by_cases hlt : j < bs.length
    · obtain ⟨a, rfl, ha, hc⟩ := HP.out.entry j hlt
      have x3 := hc 3 (by decide)
      simp [Sk.cells6] at x3
      have kk : (j : Int) < (bs.length : Int) := by omega
      clear hc
      cases hf : (Sk.bk bs j).fresh with
      | true =>
        rw [hf] at x3
        have HF : Hid ((Sk.bk bs j).fresh = true) := hf
        clear hf
        go_wp2
        go_ret
        exact ⟨j, rfl, rfl, hj, hjl, fun _ => HF.out, HI.out⟩
      | false =>
        rw [hf] at x3
        have HI2 : Hid (∀ i, n < i → i < j + 1 → (Sk.bk bs i).fresh = false) := fun i h1 h2 => by
          rcases Nat.lt_or_ge i j with c | c
          · exact HI.out i h1 c
          · rw [show i = j by omega]; exact hf
        clear hf
        go_wp2
        go_round
        case rel => exact ⟨j + 1, by omega, by omega, by go_num, HI2.out⟩
        case measure => simp [intOf]; omega
    · obtain rfl : j = bs.length := by omega
      go_wp2
      go_ret
      exact ⟨bs.length, rfl, rfl, hj, hjl, fun h => by omega, HI.out⟩

set_option maxRecDepth 100000 in
set_option maxHeartbeats 4000000 in
theorem check_any (B g : Nat) (s : ByteArray) (v : Value) (bs : List Sk.Blk) (d : Nat) (A : Nat → Addr) (w : World) (hP : PFile w B g s v bs d) (hG : Sk.Good s.data.toList bs d) (hs : s.size ≤ 65536) (hl : bs.length ≤ 20000) (hS : SentB w A w.heap.size) (hT : ErrT w) :
    Calls Tryd.prog 22 #[.pointer (some ⟨g, 0, none⟩)] w fun e w' => ∃ l, e = .returned l ∧ Rw w' 1 l (Sk.badL s.data.toList bs bs.length).length ((Sk.badL s.data.toList bs bs.length).map fun k : Nat => Value.int .i64 k) ∧ Gr w (.slice none 0 0) w' l := by
  have HP : Hid (PFile w B g s v bs d) := hP
  have HG : Hid (Sk.Good s.data.toList bs d) := hG
  have HS : Hid (SentB w A w.heap.size) := hS
  have HT : Hid (ErrT w) := hT
  clear hP hG hS hT
  go_enter Tryd.func22, Tryd.ntmps22
  go_wp2
  go_loopw [3, 4] (fun x f wr => ∃ a : Nat, ∃ xo xc, a ≤ bs.length ∧ (a < bs.length → (Sk.bk bs a).fresh = true) ∧ f = .int .i64 a ∧ x = .slice xo (Sk.badL s.data.toList bs a).length xc ∧ Rw wr 1 x (Sk.badL s.data.toList bs a).length ((Sk.badL s.data.toList bs a).map fun k : Nat => Value.int .i64 k) ∧ Gr w (.slice none 0 0) wr x) (fun _ f _ => bs.length - (intOf f).toNat)
  case atStart => exact ⟨0, none, 0, Nat.zero_le _, fun h => (HG.out.fst h).1, rfl, rfl, Rw.nil _ _, Gr.refl _ _⟩
  case round =>
    obtain ⟨a, xo, xc, ha, hfr, rfl, rfl, hR, hGr⟩ := hrel
    have HR : Hid (Rw wr 1 (.slice xo (Sk.badL s.data.toList bs a).length xc) (Sk.badL s.data.toList bs a).length ((Sk.badL s.data.toList bs a).map fun k : Nat => Value.int .i64 k)) := hR
    have HGR : Hid (Gr w (.slice none 0 0) wr (.slice xo (Sk.badL s.data.toList bs a).length xc)) := hGr
    have HFR : Hid (a < bs.length → (Sk.bk bs a).fresh = true) := hfr
    have HBE : Hid (Below w.heap.size w wr) := gr_nil_below hGr
    have hbl := Sk.badL_length s.data.toList bs a
    clear hR hGr hfr
    obtain ⟨nb, hnb⟩ : ∃ nb, nb = (Sk.badL s.data.toList bs a).length := ⟨_, rfl⟩
    rw [← hnb] at HR HGR hbl ⊢
    have HNB : Hid (nb = (Sk.badL s.data.toList bs a).length) := hnb
    clear hnb
    have HPR : Hid (PFile wr B g s v bs d) := HP.out.below HBE.out
    obtain ⟨vo, vcap, e⟩ := HP.out.row.form
    subst e
    have c0 := HPR.out.cell 0
    simp at c0
    by_cases hlt : a < bs.length
    · have kk : (a : Int) < (bs.length : Int) := by omega
      go_wp2_with fail
      refine (nextFresh_any wr B g s _ bs d a HPR.out hlt hl).mono ?_
      rintro e w1 ⟨m, rfl, hw1, h1, h2, h3, h4⟩
      rw [hw1]
      clear hw1 w1
      have H3 : Hid (m < bs.length → (Sk.bk bs m).fresh = true) := h3
      have H4 : Hid (∀ i, a < i → i < m → (Sk.bk bs i).fresh = false) := h4
      clear h3 h4
      go_wp2_with fail
      rw [show (m : Int) - 1 = ((m - 1 : Nat) : Int) by omega]
      refine (unpackF_any B g s _ bs d a (m - 1) A wr HPR.out HG.out hs hl (by omega) (by omega) (HFR.out hlt) ⟨(HS.out.below HBE.out).s, Nat.le_trans HS.out.l HBE.out.size, fun i hi => Nat.lt_of_lt_of_le (HS.out.a i hi) HBE.out.size⟩).mono ?_
      rw [show m - 1 + 1 - a = m - a by omega]
      rintro e w1 ⟨r0, r1⟩
      cases hD : Sk.dataN s.data.toList bs a (m - a) with
      | good D =>
        obtain ⟨v', rfl, hb1, hg1⟩ := r0 D hD
        have HBL : Hid (Sk.badL s.data.toList bs m = Sk.badL s.data.toList bs a) := Sk.group_good hD (by omega)
        have HB1 : Hid (Below wr.heap.size wr w1) := gr_nil_below hg1
        clear r0 r1 hb1 hg1 hD
        go_wp2_with fail
        refine (damagedBlock_nil w1).mono ?_
        rintro e w2 ⟨rfl, hb2⟩
        have HB2 : Hid (Below wr.heap.size wr w2) := HB1.out.trans (hb2.mono HB1.out.size)
        clear hb2
        go_wp2
        go_roundw
        case rel => exact ⟨m, xo, xc, h2, H3.out, rfl, by rw [HBL.out, ← HNB.out], by rw [HBL.out, ← HNB.out]; exact HR.out.below HB2.out, HGR.out.then_below HB2.out⟩
        case measure => simp [intOf]; omega
      | bad why j =>
        obtain ⟨vb, rfl, hbad, hb1⟩ := r1 why j hD
        obtain ⟨g1, g2, g3, g4⟩ := Sk.group_bad (HFR.out hlt) hD H4.out
        have HB1 : Hid (Below wr.heap.size wr w1) := hb1
        have HBAD : Hid (BadErr w1 wr.heap.size vb j (A (why - 1))) := hbad
        have HG3 : Hid (Sk.badL s.data.toList bs j = Sk.badL s.data.toList bs a) := g3
        have HG4 : Hid (∀ k, j ≤ k → k < m → Sk.isBad s.data.toList bs k = true) := g4
        obtain ⟨q, p, ff, hvb, _⟩ := hbad
        subst hvb
        clear r0 r1 hb1 hD g3 g4
        go_wp2_with fail
        refine (damagedBlock_bad _ j (A (why - 1)) _ w1 HBAD.out (HT.out.below (HBE.out.trans (HB1.out.mono HBE.out.size)))).mono ?_
        rintro e w2 ⟨rfl, hb2⟩
        have HB2 : Hid (Below wr.heap.size wr w2) := HB1.out.trans (hb2.mono HB1.out.size)
        clear hb2
        go_wp2_with fail
        obtain ⟨wst, rfl⟩ : ∃ wst : World, wst = wr := ⟨_, rfl⟩
        go_loopw [3, 8] (fun x i wr2 => ∃ k : Nat, ∃ yo yc, j ≤ k ∧ k ≤ m ∧ i = .int .i64 k ∧ x = .slice yo (Sk.badL s.data.toList bs k).length yc ∧ Rw wr2 1 x (Sk.badL s.data.toList bs k).length ((Sk.badL s.data.toList bs k).map fun k : Nat => Value.int .i64 k) ∧ Gr w (.slice none 0 0) wr2 x) (fun _ i _ => m - (intOf i).toNat)
        case atStart => exact ⟨j, xo, xc, Nat.le_refl _, by omega, rfl, by rw [HG3.out, ← HNB.out], by rw [HG3.out, ← HNB.out]; exact HR.out.below HB2.out, HGR.out.then_below HB2.out⟩
        case round =>
          obtain ⟨k, yo, yc, hk1, hk2, rfl, rfl, hR2, hGr2⟩ := hrel
          have hbk := Sk.badL_length s.data.toList bs k
          have HR2 : Hid (Rw wr 1 (.slice yo (Sk.badL s.data.toList bs k).length yc) (Sk.badL s.data.toList bs k).length ((Sk.badL s.data.toList bs k).map fun k : Nat => Value.int .i64 k)) := hR2
          have HGR2 : Hid (Gr w (.slice none 0 0) wr (.slice yo (Sk.badL s.data.toList bs k).length yc)) := hGr2
          clear hR2 hGr2
          by_cases hkm : k < m
          · have HBK : Hid (Sk.badL s.data.toList bs (k + 1) = Sk.badL s.data.toList bs k ++ [k]) := Sk.badL_bad (HG4.out k hk1 hkm)
            obtain ⟨L, hL⟩ : ∃ L, L = Sk.badL s.data.toList bs k := ⟨_, rfl⟩
            rw [← hL] at HR2 HGR2 HBK hbk ⊢
            clear hL
            have HRA : Hid (Rw (wr.alloc (.cells #[.int .i64 k] 3)) 1 (.slice yo L.length yc) L.length (L.map fun k : Nat => Value.int .i64 k)) := HR2.out.below ((Below.refl _ _).alloc (Nat.le_refl _) _)
            have HSA : Hid (Src Tryd.prog 1 50 (.slice (some ⟨wr.heap.size, 0, none⟩) 1 1) 1 [.int .i64 k] (wr.alloc (.cells #[.int .i64 k] 3))) := srcR_new wr 50 3 Tryd.underlying50 #[.int .i64 k] 1 1 rfl (by intro u hu; simp at hu; subst hu; rfl)
            go_wp2_with (at_builtin; refine wpList_append_rw rfl (.tmp 42) (.tmp 44) 50 50 rfl 3 _ 1 8 Tryd.underlying50 Tryd.infoI rfl (.slice yo L.length yc) (.slice (some ⟨wr.heap.size, 0, none⟩) 1 1) L.length 1 (L.map fun k : Nat => Value.int .i64 k) [.int .i64 k] rfl rfl HRA.out HSA.out (by decide) (by omega) (by omega) ?_; intro g5 cap5 w5 hr5 hg5 hp5; have HR5 : Hid (Rw w5 1 (.slice (some ⟨g5, 0, none⟩) (L.length + 1) cap5) (L.length + 1) ((L.map fun k : Nat => Value.int .i64 k) ++ [.int .i64 k])) := hr5; have HG5 : Hid (Gr w (.slice none 0 0) w5 (.slice (some ⟨g5, 0, none⟩) (L.length + 1) cap5)) := (HGR2.out.then_below ((Below.refl _ _).alloc (Nat.le_refl _) _)).trans hg5; clear hr5 hg5 hp5)
            go_roundw
            case rel => exact ⟨k + 1, some ⟨g5, 0, none⟩, cap5, by omega, by omega, by go_num, by rw [HBK.out, List.length_append]; rfl, by rw [HBK.out, List.length_append, List.map_append]; exact HR5.out, HG5.out⟩
            case measure => simp [intOf]; omega
          · obtain rfl : k = m := by omega
            go_wp2
            go_roundw
            case rel => exact ⟨k, yo, yc, h2, H3.out, rfl, rfl, HR2.out, HGR2.out⟩
            case measure => simp [intOf]; omega
    · obtain rfl : a = bs.length := by omega
      have kk : (bs.length : Int) ≤ (bs.length : Int) := Int.le_refl _
      go_wp2
      go_ret
      exact ⟨_, rfl, by rw [← HNB.out]; exact HR.out, HGR.out⟩
end Go.Proofs.YtafkpmjifgohcaaDoor
