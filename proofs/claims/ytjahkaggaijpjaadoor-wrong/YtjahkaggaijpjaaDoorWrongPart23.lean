/- (*File).unpack, walked: the data, or the first bad block.
Which blocks cannot be read (pure).
A file of two blocks that are put together (pure).
nextFresh and Check, walked.
(*File).ReadAt, walked where a block is bad. -/
import Derived.Test.YtjahkaggaijpjaaDoorWrongPart19
import Derived.Test.YtjahkaggaijpjaaDoorWrongPart20
import Derived.Test.YtjahkaggaijpjaaDoorWrongPart22
import Derived.Test.YtjahkaggaijpjaaDoorWrongPart4
import Derived.Test.YtjahkaggaijpjaaDoorWrongPart15
namespace Go.Proofs.YtjahkaggaijpjaaDoor
open Go.RowKit

/-- A block that is bad is told in the data. -/
theorem Sk.dataN_told {s : List UInt8} {bs : List Sk.Blk} {first m M why j : Nat} {D : List UInt8} (h : Sk.dataN s bs first m = .good D) (hu : Sk.upto s bs (first + m) = .bad why j) (hm : m < M) : Sk.dataN s bs first M = .bad why j := by
  have h1 : Sk.dataN s bs first (m + 1) = .bad why j := by rw [Sk.dataN_step h, hu]
  have := Sk.dataN_stay h1 (M - (m + 1))
  rwa [show m + 1 + (M - (m + 1)) = M by omega] at this

/-- What unpack answers. -/
def Unp (w : World) (A : Nat → Addr) (R : Sk.Got) (e : Ending) (w' : World) : Prop :=
  (∀ D, R = .good D → ∃ v', e = .returned (.tuple #[v', .nilIface]) ∧ Bts w' v' D ∧ Gr w (.slice none 0 0) w' v') ∧
  (∀ why k, R = .bad why k → ∃ v, e = .returned (.tuple #[.slice none 0 0, v]) ∧ BadErr w' w.heap.size v k (A (why - 1)) ∧ Below w.heap.size w w')

/-- damaged, behind a block that is bad. -/
theorem damaged_any (n : Nat) (A : Nat → Addr) (B : Nat) (f : Value) (why : Nat) (w : World) (hS : SentB w A B) (hf : (why = 6 ∧ f = .iface 182 (.pointer (some (A 5)))) ∨ (why = 7 ∧ ∃ h, f = .iface 173 (.pointer (some ⟨h, 0, none⟩)))) :
    Calls Tryd.prog 59 #[.int .i64 n, f] w fun e w' => ∃ v, e = .returned v ∧ BadErr w' w.heap.size v n (A (why - 1)) ∧ Below w.heap.size w w' := by
  rcases hf with ⟨rfl, rfl⟩ | ⟨rfl, h, rfl⟩
  · exact damaged_sum n (A 5) (A 6) w (hS.s.cell 5 (by decide)) (hS.s.cell 6 (by decide))
  · obtain ⟨ca, ta, ea⟩ := hS.s.plain 6 (by decide)
    obtain ⟨cb, tb, eb⟩ := hS.s.plain 5 (by decide)
    exact damaged_tok n h (A 5) (A 6) ca cb ta tb w (hS.s.cell 5 (by decide)) (hS.s.cell 6 (by decide)) (hS.s.apart 6 5 (by decide) (by decide) (by decide)) ea eb

set_option maxRecDepth 100000 in
set_option maxHeartbeats 4000000 in
theorem unpackF_any (B g : Nat) (s : ByteArray) (v : Value) (bs : List Sk.Blk) (d first last : Nat) (A : Nat → Addr) (w : World) (hP : PFile w B g s v bs d) (hG : Sk.Good s.data.toList bs d) (hs : s.size ≤ 65536) (hl : bs.length ≤ 20000) (hfl : first ≤ last) (hlb : last < bs.length) (hfr : (Sk.bk bs first).fresh = true) (hS : SentB w A w.heap.size) :
    Calls Tryd.prog 38 #[.pointer (some ⟨g, 0, none⟩), .int .i64 first, .int .i64 last] w (Unp w A (Sk.dataN s.data.toList bs first (last + 1 - first))) := by
  have HP : Hid (PFile w B g s v bs d) := hP
  have HG : Hid (Sk.Good s.data.toList bs d) := hG
  obtain ⟨R, hR⟩ : ∃ R, R = Sk.dataN s.data.toList bs first (last + 1 - first) := ⟨_, rfl⟩
  rw [← hR]
  have HR : Hid (Sk.dataN s.data.toList bs first (last + 1 - first) = R) := hR.symm
  have HS : Hid (SentB w A w.heap.size) := hS
  have HFR : Hid ((Sk.bk bs first).fresh = true) := hfr
  clear hP hG hR hS hfr
  go_enter Tryd.func38, Tryd.ntmps38
  go_wp2
  go_loopw [8, 9, 10] (fun x r i wr => ∃ m : Nat, ∃ pre out xo xc, m ≤ last + 1 - first ∧ x = .slice xo (pre.length + out.length) xc ∧ r = .int .i64 pre.length ∧ i = .int .i64 ((first : Int) + m) ∧ Bts wr x (pre ++ out) ∧ Gr w (.slice none 0 0) wr x ∧ pre.length + out.length ≤ 20000 ∧ Sk.dataN s.data.toList bs first m = .good (pre ++ out) ∧ (0 < m → Sk.upto s.data.toList bs (first + m - 1) = .good out) ∧ (m = 0 → pre = [] ∧ out = [])) (fun _ _ i _ => last + 1 - (intOf i).toNat)
  case atStart => exact ⟨0, [], [], none, 0, by omega, rfl, rfl, by go_num, Bts.nil _, Gr.refl _ _, by decide, rfl, (fun h => absurd h (by decide)), fun _ => ⟨rfl, rfl⟩⟩
  case round =>
    obtain ⟨m, pre, out, xo, xc, hm, rfl, rfl, rfl, hB, hGr, hle, hd, hu, h0⟩ := hrel
    have HB : Hid (Bts wr (.slice xo (pre.length + out.length) xc) (pre ++ out)) := hB
    have HGR : Hid (Gr w (.slice none 0 0) wr (.slice xo (pre.length + out.length) xc)) := hGr
    have HDM : Hid (Sk.dataN s.data.toList bs first m = .good (pre ++ out)) := hd
    have HU : Hid (0 < m → Sk.upto s.data.toList bs (first + m - 1) = .good out) := hu
    have H0 : Hid (m = 0 → pre = [] ∧ out = []) := h0
    have hbel : Below w.heap.size w wr := gr_nil_below hGr
    have HBE : Hid (Below w.heap.size w wr) := hbel
    clear hB hGr hd hu h0 hbel
    by_cases hlt : m < last + 1 - first
    · obtain ⟨vo, vcap, e⟩ := HP.out.row.form
      subst e
      have hPr := HP.out.below HBE.out
      have c0 := hPr.cell 0
      simp at c0
      obtain ⟨a, rfl, ha, hc⟩ := hPr.entry (first + m) (by omega)
      have x3 := hc 3 (by decide)
      simp [Sk.cells6] at x3
      have HPR : Hid (PFile wr B g s (.slice (some ⟨a, 0, none⟩) bs.length vcap) bs d) := hPr
      clear hc hPr
      have hii : (first : Int) + m ≤ (last : Int) := by omega
      have kk : (first : Int) + m < (bs.length : Int) := by omega
      have k0 : (0 : Int) ≤ (first : Int) + m := by omega
      cases hf : (Sk.bk bs (first + m)).fresh with
      | true =>
        rw [hf] at x3
        have HUA : Hid (Sk.upto s.data.toList bs (first + m) = Sk.atB s.data.toList (Sk.bk bs (first + m)) (first + m) []) := Sk.upto_fresh _ _ _ hf
        clear hf
        go_wp2_with fail
        rw [show (first : Int) + (m : Int) = ((first + m : Nat) : Int) by omega]
        have hcall := unpackBlock_any B g s _ bs d (.slice xo (pre.length + out.length) xc) (pre ++ out) [] (first + m) (A 5) wr HPR.out HG.out hs (by omega) (by rw [List.append_nil]; exact HB.out) (by rw [List.length_append]; simp; omega) ((HS.out.below HBE.out).s.cell 5 (by decide))
        rw [List.length_append, show ((pre.length + out.length : Nat) : Int) = (pre.length : Int) + out.length by omega] at hcall
        refine hcall.mono ?_
        clear hcall
        rintro e w1 ⟨r0, r6, r7⟩
        cases hat : Sk.atB s.data.toList (Sk.bk bs (first + m)) (first + m) [] with
        | bad why j =>
          obtain ⟨rfl, hwhy⟩ := Sk.atB_bad hat
          have HRB : Hid (R = .bad why (first + m)) := HR.out.symm.trans (Sk.dataN_told HDM.out (HUA.out.trans hat) hlt)
          obtain ⟨f, rfl, hff, hbl⟩ : ∃ f, e = .returned (.tuple #[.slice none 0 0, f]) ∧ ((why = 6 ∧ f = .iface 182 (.pointer (some (A 5)))) ∨ (why = 7 ∧ ∃ h, f = .iface 173 (.pointer (some ⟨h, 0, none⟩)))) ∧ Below w.heap.size w w1 := by
            rcases hwhy with rfl | rfl
            · obtain ⟨h1, h2⟩ := r6 _ hat
              exact ⟨_, h1, .inl ⟨rfl, rfl⟩, gr_nil_below (HGR.out.trans h2)⟩
            · obtain ⟨h, i, v', h1, _, _, h2⟩ := r7 _ hat
              exact ⟨_, h1, .inr ⟨rfl, h, rfl⟩, gr_nil_below (HGR.out.trans h2)⟩
          have HBL : Hid (Below w.heap.size w w1) := hbl
          have HFF : Hid ((why = 6 ∧ f = .iface 182 (.pointer (some (A 5)))) ∨ (why = 7 ∧ ∃ h, f = .iface 173 (.pointer (some ⟨h, 0, none⟩)))) := hff
          have hfn : ∃ t x, f = .iface t x := by
            rcases hff with ⟨_, rfl⟩ | ⟨_, h, rfl⟩
            · exact ⟨_, _, rfl⟩
            · exact ⟨_, _, rfl⟩
          obtain ⟨ft, fx, rfl⟩ := hfn
          clear r0 r6 r7 hat hwhy hbl hff
          go_wp2_with fail
          rw [show (first : Int) + (m : Int) = ((first + m : Nat) : Int) by omega]
          refine (damaged_any (first + m) A _ _ why w1 (HS.out.below HBL.out) HFF.out).mono ?_
          rintro e w2 ⟨vb, rfl, hbad, hb2⟩
          have HBAD : Hid (BadErr w2 w.heap.size vb (first + m) (A (why - 1))) := hbad.mono HBL.out.size
          have HB2 : Hid (Below w.heap.size w w2) := HBL.out.trans (hb2.mono HBL.out.size)
          clear hbad hb2
          go_wp2
          go_ret2
          exact ⟨(fun D hD => by rw [HRB.out] at hD; cases hD), fun why' k hk => by rw [HRB.out] at hk; cases hk; exact ⟨_, rfl, HBAD.out, HB2.out⟩⟩
        | good o =>
        have HUP : Hid (Sk.upto s.data.toList bs (first + m) = .good o) := HUA.out.trans hat
        have HDN : Hid (Sk.dataN s.data.toList bs first (m + 1) = .good ((pre ++ out) ++ o)) := Sk.dataN_more HDM.out (by simp) HUP.out hat
        obtain ⟨v', rfl, hb1, hg1⟩ := r0 o hat
        have HB1 : Hid (Bts w1 v' ((pre ++ out) ++ o)) := hb1
        have HG1 : Hid (Gr w (.slice none 0 0) w1 v') := HGR.out.trans hg1
        clear r0 r6 r7 hb1 hg1 hat
        go_wp2
        go_roundw
        case rel =>
          obtain ⟨xo2, xc2, e2⟩ := HB1.out.form
          subst e2
          have hdat := (HG.out.data HFR.out (m + 1) _ (by omega) HDN.out).2.1 (by omega)
          have hle2 : (Sk.bk bs (first + (m + 1) - 1)).frm + (Sk.bk bs (first + (m + 1) - 1)).size ≤ d := HG.out.le _ (by omega)
          have hd2 := HG.out.dat
          refine ⟨m + 1, pre ++ out, o, xo2, xc2, by omega, by rw [← List.length_append], by simp [List.length_append], by go_num, HB1.out, HG1.out, by rw [← List.length_append]; omega, HDN.out, fun _ => by rw [show first + (m + 1) - 1 = first + m by omega]; exact HUP.out, fun h => by omega⟩
        case measure => simp [intOf]; omega
      | false =>
        rw [hf] at x3
        have hm0 : 0 < m := by
          rcases Nat.eq_zero_or_pos m with e | e
          · subst e; rw [Nat.add_zero, HFR.out] at hf; cases hf
          · exact e
        have HUA : Hid (Sk.upto s.data.toList bs (first + m) = Sk.atB s.data.toList (Sk.bk bs (first + m)) (first + m) out) := by
          have h1 := HU.out hm0
          have e : first + m - 1 + 1 = first + m := by omega
          show _ = _
          rw [← e] at hf ⊢
          exact Sk.upto_step _ _ _ hf _ h1
        clear hf
        go_wp2_with fail
        rw [show (first : Int) + (m : Int) = ((first + m : Nat) : Int) by omega]
        refine (unpackBlock_any B g s _ bs d (.slice xo (pre.length + out.length) xc) pre out (first + m) (A 5) wr HPR.out HG.out hs (by omega) HB.out (by omega) ((HS.out.below HBE.out).s.cell 5 (by decide))).mono ?_
        rintro e w1 ⟨r0, r6, r7⟩
        cases hat : Sk.atB s.data.toList (Sk.bk bs (first + m)) (first + m) out with
        | bad why j =>
          obtain ⟨rfl, hwhy⟩ := Sk.atB_bad hat
          have HRB : Hid (R = .bad why (first + m)) := HR.out.symm.trans (Sk.dataN_told HDM.out (HUA.out.trans hat) hlt)
          obtain ⟨f, rfl, hff, hbl⟩ : ∃ f, e = .returned (.tuple #[.slice none 0 0, f]) ∧ ((why = 6 ∧ f = .iface 182 (.pointer (some (A 5)))) ∨ (why = 7 ∧ ∃ h, f = .iface 173 (.pointer (some ⟨h, 0, none⟩)))) ∧ Below w.heap.size w w1 := by
            rcases hwhy with rfl | rfl
            · obtain ⟨h1, h2⟩ := r6 _ hat
              exact ⟨_, h1, .inl ⟨rfl, rfl⟩, gr_nil_below (HGR.out.trans h2)⟩
            · obtain ⟨h, i, v', h1, _, _, h2⟩ := r7 _ hat
              exact ⟨_, h1, .inr ⟨rfl, h, rfl⟩, gr_nil_below (HGR.out.trans h2)⟩
          have HBL : Hid (Below w.heap.size w w1) := hbl
          have HFF : Hid ((why = 6 ∧ f = .iface 182 (.pointer (some (A 5)))) ∨ (why = 7 ∧ ∃ h, f = .iface 173 (.pointer (some ⟨h, 0, none⟩)))) := hff
          have hfn : ∃ t x, f = .iface t x := by
            rcases hff with ⟨_, rfl⟩ | ⟨_, h, rfl⟩
            · exact ⟨_, _, rfl⟩
            · exact ⟨_, _, rfl⟩
          obtain ⟨ft, fx, rfl⟩ := hfn
          clear r0 r6 r7 hat hwhy hbl hff
          go_wp2_with fail
          rw [show (first : Int) + (m : Int) = ((first + m : Nat) : Int) by omega]
          refine (damaged_any (first + m) A _ _ why w1 (HS.out.below HBL.out) HFF.out).mono ?_
          rintro e w2 ⟨vb, rfl, hbad, hb2⟩
          have HBAD : Hid (BadErr w2 w.heap.size vb (first + m) (A (why - 1))) := hbad.mono HBL.out.size
          have HB2 : Hid (Below w.heap.size w w2) := HBL.out.trans (hb2.mono HBL.out.size)
          clear hbad hb2
          go_wp2
          go_ret2
          exact ⟨(fun D hD => by rw [HRB.out] at hD; cases hD), fun why' k hk => by rw [HRB.out] at hk; cases hk; exact ⟨_, rfl, HBAD.out, HB2.out⟩⟩
        | good o =>
        have HUP : Hid (Sk.upto s.data.toList bs (first + m) = .good o) := HUA.out.trans hat
        have HDN : Hid (Sk.dataN s.data.toList bs first (m + 1) = .good (pre ++ o)) := Sk.dataN_more HDM.out rfl HUP.out hat
        obtain ⟨v', rfl, hb1, hg1⟩ := r0 o hat
        have HB1 : Hid (Bts w1 v' (pre ++ o)) := hb1
        have HG1 : Hid (Gr w (.slice none 0 0) w1 v') := HGR.out.trans hg1
        clear r0 r6 r7 hb1 hg1 hat
        go_wp2
        go_roundw
        case rel =>
          obtain ⟨xo2, xc2, e2⟩ := HB1.out.form
          subst e2
          have hdat := (HG.out.data HFR.out (m + 1) _ (by omega) HDN.out).2.1 (by omega)
          have hle2 : (Sk.bk bs (first + (m + 1) - 1)).frm + (Sk.bk bs (first + (m + 1) - 1)).size ≤ d := HG.out.le _ (by omega)
          have hd2 := HG.out.dat
          refine ⟨m + 1, pre, o, xo2, xc2, by omega, by rw [← List.length_append], rfl, by go_num, HB1.out, HG1.out, by rw [← List.length_append]; omega, HDN.out, fun _ => by rw [show first + (m + 1) - 1 = first + m by omega]; exact HUP.out, fun h => by omega⟩
        case measure => simp [intOf]; omega
    · obtain rfl : m = last + 1 - first := by omega
      have HE : Hid (R = .good (pre ++ out)) := HR.out.symm.trans HDM.out
      have hii : (last : Int) < (first : Int) + ((last + 1 - first : Nat) : Int) := by omega
      go_wp2
      go_ret2
      exact ⟨(fun D hD => by rw [HE.out] at hD; cases hD; exact ⟨_, rfl, HB.out, HGR.out⟩), fun why k hk => by rw [HE.out] at hk; cases hk⟩
end Go.Proofs.YtjahkaggaijpjaaDoor

namespace Go.Proofs.YtjahkaggaijpjaaDoor

def Sk.isBad (s : List UInt8) (bs : List Sk.Blk) (k : Nat) : Bool := match Sk.upto s bs k with | .bad _ _ => true | .good _ => false

/-- The bad ones among the first n. -/
def Sk.badL (s : List UInt8) (bs : List Sk.Blk) : Nat → List Nat
  | 0 => []
  | n + 1 => Sk.badL s bs n ++ if Sk.isBad s bs n then [n] else []

section
variable {s : List UInt8} {bs : List Sk.Blk} {d : Nat}
theorem Sk.badL_bad {n : Nat} (h : Sk.isBad s bs n = true) : Sk.badL s bs (n + 1) = Sk.badL s bs n ++ [n] := by rw [Sk.badL, if_pos h]
theorem Sk.badL_good {n : Nat} (h : Sk.isBad s bs n = false) : Sk.badL s bs (n + 1) = Sk.badL s bs n := by rw [Sk.badL, if_neg (by rw [h]; decide), List.append_nil]
theorem Sk.badL_goods {a : Nat} : ∀ m, (∀ i, i < m → Sk.isBad s bs (a + i) = false) → Sk.badL s bs (a + m) = Sk.badL s bs a
  | 0, _ => rfl
  | m + 1, h => by rw [← Nat.add_assoc, Sk.badL_good (h m (by omega)), Sk.badL_goods m (fun i hi => h i (by omega))]
theorem Sk.badL_length (s : List UInt8) (bs : List Sk.Blk) : ∀ n, (Sk.badL s bs n).length ≤ n
  | 0 => Nat.le_refl _
  | n + 1 => by
    rw [Sk.badL, List.length_append]
    have := Sk.badL_length s bs n
    split <;> simp <;> omega

/-- Where the data is good, each block is. -/
theorem Sk.dataN_isGood {first : Nat} : ∀ m D, Sk.dataN s bs first m = .good D → ∀ i, i < m → Sk.isBad s bs (first + i) = false
  | 0, _, _, i, hi => absurd hi (Nat.not_lt_zero _)
  | m + 1, D, h, i, hi => by
    obtain ⟨D', h'⟩ := Sk.dataN_upto h m (by omega)
    rw [Sk.dataN_step h'] at h
    by_cases e : i < m
    · exact Sk.dataN_isGood m D' h' i e
    · obtain rfl : i = m := by omega
      unfold Sk.isBad
      cases hu : Sk.upto s bs (first + i) with
      | good o => rfl
      | bad w j => rw [hu] at h; cases h

/-- A block that is bad spoils those behind it, up to the next fresh one. -/
theorem Sk.bad_stays {j : Nat} (h : Sk.isBad s bs j = true) : ∀ m, (∀ i, j < i → i ≤ j + m → (Sk.bk bs i).fresh = false) → Sk.isBad s bs (j + m) = true
  | 0, _ => h
  | m + 1, hf => by
    have ih := Sk.bad_stays h m (fun i h1 h2 => hf i h1 (by omega))
    unfold Sk.isBad at ih ⊢
    cases hu : Sk.upto s bs (j + m) with
    | good o => rw [hu] at ih; cases ih
    | bad w k => rw [← Nat.add_assoc, Sk.upto_stay s bs (j + m) (hf (j + m + 1) (by omega) (by omega)) w k hu]

/-- From one fresh block to the next, by the data between them. -/
theorem Sk.group_good {first m : Nat} {D : List UInt8} (h : Sk.dataN s bs first (m - first) = .good D) (hm : first ≤ m) : Sk.badL s bs m = Sk.badL s bs first := by
  have := Sk.badL_goods (a := first) (m - first) (Sk.dataN_isGood _ D h)
  rwa [show first + (m - first) = m by omega] at this
theorem Sk.group_bad {first m why j : Nat} (hf : (Sk.bk bs first).fresh = true) (h : Sk.dataN s bs first (m - first) = .bad why j) (hn : ∀ i, first < i → i < m → (Sk.bk bs i).fresh = false) :
    first ≤ j ∧ j < m ∧ Sk.badL s bs j = Sk.badL s bs first ∧ ∀ k, j ≤ k → k < m → Sk.isBad s bs k = true := by
  obtain ⟨h1, h2, h3, D, h4⟩ := Sk.dataN_bad hf _ why j h
  refine ⟨h1, by omega, Sk.group_good h4 h1, fun k hk hkm => ?_⟩
  have hb : Sk.isBad s bs j = true := by unfold Sk.isBad; rw [h3]
  have := Sk.bad_stays hb (k - j) (fun i a b => hn i (by omega) (by omega))
  rwa [show j + (k - j) = k by omega] at this
end
end Go.Proofs.YtjahkaggaijpjaaDoor

namespace Go.Proofs.YtjahkaggaijpjaaDoor

/-- What comes of the tokens of block k. -/
def Sk.got (k : Nat) : Option (List UInt8) → Sk.Got
  | none => .bad 7 k
  | some o => .good o

/-- A block: its header, and the packed bytes. -/
def Sk.blkB (f : Bool) (n : Nat) (P : List UInt8) : List UInt8 := Sk.hdr f n P.length (Sk.sumOf P) ++ P
theorem Sk.blkB_length (f : Bool) (n : Nat) (P : List UInt8) : (Sk.blkB f n P).length = 9 + P.length := by rw [Sk.blkB, List.length_append, Sk.hdr_length]

/-- Open goes by one block. -/
theorem Sk.open_one (F out rest P : List UInt8) (fr : Bool) (n d g : Nat) (bs : List Sk.Blk) (hF : F = out ++ (Sk.blkB fr n P ++ rest)) (h1 : 1 ≤ n) (h2 : n ≤ 1024) (hP : P.length < 65536) (hd : d + n ≤ 20000) (h0 : bs = [] → fr = true) :
    Sk.openN F (g + 1) out.length bs d = Sk.openN F g (out.length + 9 + P.length) (bs ++ [⟨d, n, out.length, fr⟩]) (d + n) := by
  have hFe : F = out ++ (Sk.hdr fr n P.length (Sk.sumOf P) ++ (P ++ rest)) := by rw [hF, Sk.blkB]; simp only [List.append_assoc]
  obtain ⟨q0, q1, q2, _⟩ := Sk.hdr_parts out (P ++ rest) fr n P.length (Sk.sumOf P) (by omega) hP (Sk.sum_lt P)
  rw [← hFe] at q0 q1 q2
  have hFl : out.length + 9 + P.length ≤ F.length := by
    rw [hFe]
    simp only [List.length_append, Sk.hdr_length]
    omega
  have hfr : ((Sk.gt F out.length).toNat == 1) = fr := by
    rw [q0]; cases fr <;> rfl
  have hbad : Sk.badHdr F out.length bs d = false := by
    unfold Sk.badHdr
    rw [q1, hfr, q0]
    have e1 : ¬ (1 < (if fr = true then 1 else 0)) := by split <;> omega
    have e2 : (bs.isEmpty && !fr) = false := by
      by_cases h : bs = []
      · rw [h0 h]; simp
      · have : bs.isEmpty = false := by simpa using h
        rw [this]; rfl
    rw [e2]
    simp only [Bool.or_false, Bool.or_eq_false_iff, decide_eq_false_iff_not]
    exact ⟨⟨⟨e1, by omega⟩, by omega⟩, by omega⟩
  rw [Sk.openN, if_pos (by omega), if_neg (by omega), hbad, if_neg (by decide), q2, if_neg (by omega), q1, hfr]

/-- What a block's packed bytes and sum are, in a longer text. -/
theorem Sk.blk_parts (F out rest P : List UInt8) (fr : Bool) (n d : Nat) (hF : F = out ++ (Sk.blkB fr n P ++ rest)) (hn : n < 65536) (hP : P.length < 65536) :
    Sk.packedOf F ⟨d, n, out.length, fr⟩ = P ∧ Sk.numAt F (out.length + 5) 4 = Sk.sumOf P := by
  have hFe : F = out ++ (Sk.hdr fr n P.length (Sk.sumOf P) ++ (P ++ rest)) := by rw [hF, Sk.blkB]; simp only [List.append_assoc]
  obtain ⟨_, _, q2, q3⟩ := Sk.hdr_parts out (P ++ rest) fr n P.length (Sk.sumOf P) hn hP (Sk.sum_lt P)
  rw [← hFe] at q2 q3
  refine ⟨?_, q3⟩
  show Sk.sub F (out.length + 9) (out.length + 9 + Sk.numAt F (out.length + 3) 2) = P
  rw [q2]
  have := Sk.sub_mid (out ++ Sk.hdr fr n P.length (Sk.sumOf P)) P rest 0 P.length (Nat.le_refl _)
  rw [List.length_append, Sk.hdr_length, Nat.add_zero, List.append_assoc, ← hFe] at this
  rw [this]
  unfold Sk.sub
  simp

theorem Sk.atB_blk (F out rest P : List UInt8) (fr : Bool) (n d k : Nat) (o : List UInt8) (hF : F = out ++ (Sk.blkB fr n P ++ rest)) (hn : n < 65536) (hP : P.length < 65536) :
    Sk.atB F ⟨d, n, out.length, fr⟩ k o = Sk.got k (Sk.unp P n o) := by
  obtain ⟨h1, h2⟩ := Sk.blk_parts F out rest P fr n d hF hn hP
  unfold Sk.atB
  rw [h1]
  dsimp only
  rw [h2, if_pos rfl]
  cases Sk.unp P n o <;> rfl

/-- The file, and its blocks. -/
def Sk.twoF (n1 : Nat) (P1 : List UInt8) (fr : Bool) (n2 : Nat) (P2 : List UInt8) : List UInt8 := [83, 75, 49] ++ (Sk.blkB true n1 P1 ++ Sk.blkB fr n2 P2)
def Sk.twoB (n1 : Nat) (P1 : List UInt8) (fr : Bool) (n2 : Nat) : List Sk.Blk := [⟨0, n1, 3, true⟩, ⟨n1, n2, 12 + P1.length, fr⟩]

section
variable {n1 n2 : Nat} {P1 P2 : List UInt8} {fr : Bool}
theorem Sk.twoF_length : (Sk.twoF n1 P1 fr n2 P2).length = 21 + P1.length + P2.length := by
  unfold Sk.twoF
  simp only [List.length_append, Sk.blkB_length, List.length_cons, List.length_nil]
  omega
theorem Sk.two_fst : Sk.twoF n1 P1 fr n2 P2 = [83, 75, 49] ++ (Sk.blkB true n1 P1 ++ Sk.blkB fr n2 P2) := rfl
theorem Sk.two_snd : Sk.twoF n1 P1 fr n2 P2 = ([83, 75, 49] ++ Sk.blkB true n1 P1) ++ (Sk.blkB fr n2 P2 ++ []) := by
  unfold Sk.twoF
  rw [List.append_nil, List.append_assoc]
theorem Sk.two_len : ([83, 75, 49] ++ Sk.blkB true n1 P1).length = 12 + P1.length := by
  rw [List.length_append, Sk.blkB_length]; simp; omega

theorem Sk.openR_two (h1 : 1 ≤ n1) (h2 : n1 ≤ 1024) (h3 : 1 ≤ n2) (h4 : n2 ≤ 1024) (hP1 : P1.length ≤ 30000) (hP2 : P2.length ≤ 30000) : Sk.openR (Sk.twoF n1 P1 fr n2 P2) = (0, Sk.twoB n1 P1 fr n2, n1 + n2) := by
  have hl := Sk.twoF_length (n1 := n1) (n2 := n2) (P1 := P1) (P2 := P2) (fr := fr)
  have ht : (Sk.twoF n1 P1 fr n2 P2).take 3 = [83, 75, 49] := rfl
  unfold Sk.openR
  rw [if_neg (by omega), if_neg (by rw [ht]; intro h; rcases h with h | h; omega; exact h rfl)]
  obtain ⟨g, hg⟩ : ∃ g, (Sk.twoF n1 P1 fr n2 P2).length = g + 1 + 1 := ⟨(Sk.twoF n1 P1 fr n2 P2).length - 2, by omega⟩
  rw [hg]
  have e1 := Sk.open_one (Sk.twoF n1 P1 fr n2 P2) [83, 75, 49] _ P1 true n1 0 (g + 1) [] Sk.two_fst h1 h2 (by omega) (by omega) (fun _ => rfl)
  have e2 := Sk.open_one (Sk.twoF n1 P1 fr n2 P2) ([83, 75, 49] ++ Sk.blkB true n1 P1) [] P2 fr n2 n1 g [⟨0, n1, 3, true⟩] Sk.two_snd h3 h4 (by omega) (by omega) (fun h => by cases h)
  rw [Sk.two_len] at e2
  rw [show ([83, 75, 49] : List UInt8).length = 3 from rfl, Nat.zero_add, List.nil_append] at e1
  rw [e1, show 3 + 9 + P1.length = 12 + P1.length by omega, e2, Sk.openN_end _ _ _ _ _ (by omega)]
  rfl

theorem Sk.upto_two0 (h2 : n1 ≤ 1024) (hP1 : P1.length ≤ 30000) : Sk.upto (Sk.twoF n1 P1 fr n2 P2) (Sk.twoB n1 P1 fr n2) 0 = Sk.got 0 (Sk.unp P1 n1 []) := by
  rw [Sk.upto]
  exact Sk.atB_blk _ [83, 75, 49] _ P1 true n1 0 0 [] Sk.two_fst (by omega) (by omega)

theorem Sk.upto_two1 (h2 : n1 ≤ 1024) (h4 : n2 ≤ 1024) (hP1 : P1.length ≤ 30000) (hP2 : P2.length ≤ 30000) {o : List UInt8} (ho : Sk.unp P1 n1 [] = some o) : Sk.upto (Sk.twoF n1 P1 fr n2 P2) (Sk.twoB n1 P1 fr n2) 1 = Sk.got 1 (Sk.unp P2 n2 (if fr then [] else o)) := by
  have h0 := Sk.upto_two0 (n1 := n1) (n2 := n2) (P1 := P1) (P2 := P2) (fr := fr) h2 hP1
  rw [ho] at h0
  have hat := fun o => Sk.atB_blk (Sk.twoF n1 P1 fr n2 P2) ([83, 75, 49] ++ Sk.blkB true n1 P1) [] P2 fr n2 n1 1 o Sk.two_snd (by omega) (by omega)
  rw [Sk.two_len] at hat
  cases fr with
  | true =>
    rw [Sk.upto_fresh _ _ _ rfl]
    exact hat []
  | false =>
    rw [Sk.upto_step _ _ 0 rfl o h0]
    exact hat o
end
end Go.Proofs.YtjahkaggaijpjaaDoor

namespace Go.Proofs.YtjahkaggaijpjaaDoor
open Go.RowKit

set_option maxHeartbeats 2000000 in
theorem nextFresh_any (w : World) (B g : Nat) (s : ByteArray) (v : Value) (bs : List Sk.Blk) (d n : Nat) (h : PFile w B g s v bs d) (hn : n < bs.length) (hl : bs.length ≤ 20000) :
    Calls Tryd.prog 39 #[.pointer (some ⟨g, 0, none⟩), .int .i64 n] w fun e w' => ∃ m : Nat, e = .returned (.int .i64 m) ∧ w' = w ∧ n < m ∧ m ≤ bs.length ∧ (m < bs.length → (Sk.bk bs m).fresh = true) ∧ ∀ i, n < i → i < m → (Sk.bk bs i).fresh = false := by
  obtain ⟨vo, vcap, rfl⟩ := h.row.form
  have HP : Hid (PFile w B g s (.slice vo bs.length vcap) bs d) := h
  have c0 := h.cell 0
  simp at c0
  clear h
  go_enter Tryd.func39, Tryd.ntmps39
  go_wp2
  go_loop [1] (fun i => ∃ j : Nat, n < j ∧ j ≤ bs.length ∧ i = .int .i64 j ∧ ∀ i, n < i → i < j → (Sk.bk bs i).fresh = false) (fun i => bs.length - (intOf i).toNat)
  case atStart => exact ⟨n + 1, by omega, by omega, by go_num, fun i h1 h2 => by omega⟩
  case round =>
    obtain ⟨j, hj, hjl, rfl, hinv⟩ := hrel
    have HI : Hid (∀ i, n < i → i < j → (Sk.bk bs i).fresh = false) := hinv
    clear hinv
    by_cases hlt : j < bs.length
    · obtain ⟨a, rfl, ha, hc⟩ := HP.out.entry j hlt
      have x3 := hc 3 (by decide)
      simp [Sk.cells6] at x3
      have kk : (j : Int) < (bs.length : Int) := by omega
      clear hc
      cases hf : (Sk.bk bs j).fresh with
      | true =>
        rw [hf] at x3
        have HF : Hid ((Sk.bk bs j).fresh = true) := hf
        clear hf
        go_wp2
        go_ret
        exact ⟨j, rfl, rfl, hj, hjl, fun _ => HF.out, HI.out⟩
      | false =>
        rw [hf] at x3
        have HI2 : Hid (∀ i, n < i → i < j + 1 → (Sk.bk bs i).fresh = false) := fun i h1 h2 => by
          rcases Nat.lt_or_ge i j with c | c
          · exact HI.out i h1 c
          · rw [show i = j by omega]; exact hf
        clear hf
        go_wp2
        go_round
        case rel => exact ⟨j + 1, by omega, by omega, by go_num, HI2.out⟩
        case measure => simp [intOf]; omega
    · obtain rfl : j = bs.length := by omega
      go_wp2
      go_ret
      exact ⟨bs.length, rfl, rfl, hj, hjl, fun h => by omega, HI.out⟩

set_option maxRecDepth 100000 in
set_option maxHeartbeats 4000000 in
theorem check_any (B g : Nat) (s : ByteArray) (v : Value) (bs : List Sk.Blk) (d : Nat) (A : Nat → Addr) (w : World) (hP : PFile w B g s v bs d) (hG : Sk.Good s.data.toList bs d) (hs : s.size ≤ 65536) (hl : bs.length ≤ 20000) (hS : SentB w A w.heap.size) (hT : ErrT w) :
    Calls Tryd.prog 24 #[.pointer (some ⟨g, 0, none⟩)] w fun e w' => ∃ l, e = .returned l ∧ Rw w' 1 l (Sk.badL s.data.toList bs bs.length).length ((Sk.badL s.data.toList bs bs.length).map fun k : Nat => Value.int .i64 k) ∧ Gr w (.slice none 0 0) w' l := by
  have HP : Hid (PFile w B g s v bs d) := hP
  have HG : Hid (Sk.Good s.data.toList bs d) := hG
  have HS : Hid (SentB w A w.heap.size) := hS
  have HT : Hid (ErrT w) := hT
  clear hP hG hS hT
  go_enter Tryd.func24, Tryd.ntmps24
  go_wp2
  go_loopw [3, 4] (fun x f wr => ∃ a : Nat, ∃ xo xc, a ≤ bs.length ∧ (a < bs.length → (Sk.bk bs a).fresh = true) ∧ f = .int .i64 a ∧ x = .slice xo (Sk.badL s.data.toList bs a).length xc ∧ Rw wr 1 x (Sk.badL s.data.toList bs a).length ((Sk.badL s.data.toList bs a).map fun k : Nat => Value.int .i64 k) ∧ Gr w (.slice none 0 0) wr x) (fun _ f _ => bs.length - (intOf f).toNat)
  case atStart => exact ⟨0, none, 0, Nat.zero_le _, fun h => (HG.out.fst h).1, rfl, rfl, Rw.nil _ _, Gr.refl _ _⟩
  case round =>
    obtain ⟨a, xo, xc, ha, hfr, rfl, rfl, hR, hGr⟩ := hrel
    have HR : Hid (Rw wr 1 (.slice xo (Sk.badL s.data.toList bs a).length xc) (Sk.badL s.data.toList bs a).length ((Sk.badL s.data.toList bs a).map fun k : Nat => Value.int .i64 k)) := hR
    have HGR : Hid (Gr w (.slice none 0 0) wr (.slice xo (Sk.badL s.data.toList bs a).length xc)) := hGr
    have HFR : Hid (a < bs.length → (Sk.bk bs a).fresh = true) := hfr
    have HBE : Hid (Below w.heap.size w wr) := gr_nil_below hGr
    have hbl := Sk.badL_length s.data.toList bs a
    clear hR hGr hfr
    obtain ⟨nb, hnb⟩ : ∃ nb, nb = (Sk.badL s.data.toList bs a).length := ⟨_, rfl⟩
    rw [← hnb] at HR HGR hbl ⊢
    have HNB : Hid (nb = (Sk.badL s.data.toList bs a).length) := hnb
    clear hnb
    have HPR : Hid (PFile wr B g s v bs d) := HP.out.below HBE.out
    obtain ⟨vo, vcap, e⟩ := HP.out.row.form
    subst e
    have c0 := HPR.out.cell 0
    simp at c0
    by_cases hlt : a < bs.length
    · have kk : (a : Int) < (bs.length : Int) := by omega
      go_wp2_with fail
      refine (nextFresh_any wr B g s _ bs d a HPR.out hlt hl).mono ?_
      rintro e w1 ⟨m, rfl, hw1, h1, h2, h3, h4⟩
      rw [hw1]
      clear hw1 w1
      have H3 : Hid (m < bs.length → (Sk.bk bs m).fresh = true) := h3
      have H4 : Hid (∀ i, a < i → i < m → (Sk.bk bs i).fresh = false) := h4
      clear h3 h4
      go_wp2_with fail
      rw [show (m : Int) - 1 = ((m - 1 : Nat) : Int) by omega]
      refine (unpackF_any B g s _ bs d a (m - 1) A wr HPR.out HG.out hs hl (by omega) (by omega) (HFR.out hlt) ⟨(HS.out.below HBE.out).s, Nat.le_trans HS.out.l HBE.out.size, fun i hi => Nat.lt_of_lt_of_le (HS.out.a i hi) HBE.out.size⟩).mono ?_
      rw [show m - 1 + 1 - a = m - a by omega]
      rintro e w1 ⟨r0, r1⟩
      cases hD : Sk.dataN s.data.toList bs a (m - a) with
      | good D =>
        obtain ⟨v', rfl, hb1, hg1⟩ := r0 D hD
        have HBL : Hid (Sk.badL s.data.toList bs m = Sk.badL s.data.toList bs a) := Sk.group_good hD (by omega)
        have HB1 : Hid (Below wr.heap.size wr w1) := gr_nil_below hg1
        clear r0 r1 hb1 hg1 hD
        go_wp2_with fail
        refine (damagedBlock_nil w1).mono ?_
        rintro e w2 ⟨rfl, hb2⟩
        have HB2 : Hid (Below wr.heap.size wr w2) := HB1.out.trans (hb2.mono HB1.out.size)
        clear hb2
        go_wp2
        go_roundw
        case rel => exact ⟨m, xo, xc, h2, H3.out, rfl, by rw [HBL.out, ← HNB.out], by rw [HBL.out, ← HNB.out]; exact HR.out.below HB2.out, HGR.out.then_below HB2.out⟩
        case measure => simp [intOf]; omega
      | bad why j =>
        obtain ⟨vb, rfl, hbad, hb1⟩ := r1 why j hD
        obtain ⟨g1, g2, g3, g4⟩ := Sk.group_bad (HFR.out hlt) hD H4.out
        have HB1 : Hid (Below wr.heap.size wr w1) := hb1
        have HBAD : Hid (BadErr w1 wr.heap.size vb j (A (why - 1))) := hbad
        have HG3 : Hid (Sk.badL s.data.toList bs j = Sk.badL s.data.toList bs a) := g3
        have HG4 : Hid (∀ k, j ≤ k → k < m → Sk.isBad s.data.toList bs k = true) := g4
        obtain ⟨q, p, ff, hvb, _⟩ := hbad
        subst hvb
        clear r0 r1 hb1 hD g3 g4
        go_wp2_with fail
        refine (damagedBlock_bad _ j (A (why - 1)) _ w1 HBAD.out (HT.out.below (HBE.out.trans (HB1.out.mono HBE.out.size)))).mono ?_
        rintro e w2 ⟨rfl, hb2⟩
        have HB2 : Hid (Below wr.heap.size wr w2) := HB1.out.trans (hb2.mono HB1.out.size)
        clear hb2
        go_wp2_with fail
        obtain ⟨wst, rfl⟩ : ∃ wst : World, wst = wr := ⟨_, rfl⟩
        go_loopw [3, 8] (fun x i wr2 => ∃ k : Nat, ∃ yo yc, j ≤ k ∧ k ≤ m ∧ i = .int .i64 k ∧ x = .slice yo (Sk.badL s.data.toList bs k).length yc ∧ Rw wr2 1 x (Sk.badL s.data.toList bs k).length ((Sk.badL s.data.toList bs k).map fun k : Nat => Value.int .i64 k) ∧ Gr w (.slice none 0 0) wr2 x) (fun _ i _ => m - (intOf i).toNat)
        case atStart => exact ⟨j, xo, xc, Nat.le_refl _, by omega, rfl, by rw [HG3.out, ← HNB.out], by rw [HG3.out, ← HNB.out]; exact HR.out.below HB2.out, HGR.out.then_below HB2.out⟩
        case round =>
          obtain ⟨k, yo, yc, hk1, hk2, rfl, rfl, hR2, hGr2⟩ := hrel
          have hbk := Sk.badL_length s.data.toList bs k
          have HR2 : Hid (Rw wr 1 (.slice yo (Sk.badL s.data.toList bs k).length yc) (Sk.badL s.data.toList bs k).length ((Sk.badL s.data.toList bs k).map fun k : Nat => Value.int .i64 k)) := hR2
          have HGR2 : Hid (Gr w (.slice none 0 0) wr (.slice yo (Sk.badL s.data.toList bs k).length yc)) := hGr2
          clear hR2 hGr2
          by_cases hkm : k < m
          · have HBK : Hid (Sk.badL s.data.toList bs (k + 1) = Sk.badL s.data.toList bs k ++ [k]) := Sk.badL_bad (HG4.out k hk1 hkm)
            obtain ⟨L, hL⟩ : ∃ L, L = Sk.badL s.data.toList bs k := ⟨_, rfl⟩
            rw [← hL] at HR2 HGR2 HBK hbk ⊢
            clear hL
            have HRA : Hid (Rw (wr.alloc (.cells #[.int .i64 k] 3)) 1 (.slice yo L.length yc) L.length (L.map fun k : Nat => Value.int .i64 k)) := HR2.out.below ((Below.refl _ _).alloc (Nat.le_refl _) _)
            have HSA : Hid (Src Tryd.prog 1 53 (.slice (some ⟨wr.heap.size, 0, none⟩) 1 1) 1 [.int .i64 k] (wr.alloc (.cells #[.int .i64 k] 3))) := srcR_new wr 53 3 Tryd.underlying53 #[.int .i64 k] 1 1 rfl (by intro u hu; simp at hu; subst hu; rfl)
            go_wp2_with (at_builtin; refine wpList_append_rw rfl (.tmp 42) (.tmp 44) 53 53 rfl 3 _ 1 8 Tryd.underlying53 Tryd.infoI rfl (.slice yo L.length yc) (.slice (some ⟨wr.heap.size, 0, none⟩) 1 1) L.length 1 (L.map fun k : Nat => Value.int .i64 k) [.int .i64 k] rfl rfl HRA.out HSA.out (by decide) (by omega) (by omega) ?_; intro g5 cap5 w5 hr5 hg5 hp5; have HR5 : Hid (Rw w5 1 (.slice (some ⟨g5, 0, none⟩) (L.length + 1) cap5) (L.length + 1) ((L.map fun k : Nat => Value.int .i64 k) ++ [.int .i64 k])) := hr5; have HG5 : Hid (Gr w (.slice none 0 0) w5 (.slice (some ⟨g5, 0, none⟩) (L.length + 1) cap5)) := (HGR2.out.then_below ((Below.refl _ _).alloc (Nat.le_refl _) _)).trans hg5; clear hr5 hg5 hp5)
            go_roundw
            case rel => exact ⟨k + 1, some ⟨g5, 0, none⟩, cap5, by omega, by omega, by go_num, by rw [HBK.out, List.length_append]; rfl, by rw [HBK.out, List.length_append, List.map_append]; exact HR5.out, HG5.out⟩
            case measure => simp [intOf]; omega
          · obtain rfl : k = m := by omega
            go_wp2
            go_roundw
            case rel => exact ⟨k, yo, yc, h2, H3.out, rfl, rfl, HR2.out, HGR2.out⟩
            case measure => simp [intOf]; omega
    · obtain rfl : a = bs.length := by omega
      have kk : (bs.length : Int) ≤ (bs.length : Int) := Int.le_refl _
      go_wp2
      go_ret
      exact ⟨_, rfl, by rw [← HNB.out]; exact HR.out, HGR.out⟩
end Go.Proofs.YtjahkaggaijpjaaDoor

namespace Go.Proofs.YtjahkaggaijpjaaDoor
open Go.RowKit

set_option maxRecDepth 100000 in
set_option maxHeartbeats 4000000 in
theorem readAt_bad (B g : Nat) (s : ByteArray) (v : Value) (bs : List Sk.Blk) (d f c k0 k1 : Nat) (why j : Nat) (A : Nat → Addr) (w : World) (hP : PFile w B g s v bs d) (hG : Sk.Good s.data.toList bs d) (hs : s.size ≤ 65536) (hl : bs.length ≤ 20000) (hc : 0 < c) (hfc : f + c ≤ d)
    (q0 : k0 < bs.length ∧ (Sk.bk bs k0).frm ≤ f ∧ f < (Sk.bk bs k0).frm + (Sk.bk bs k0).size) (q1 : k1 < bs.length ∧ (Sk.bk bs k1).frm ≤ f + c - 1 ∧ f + c - 1 < (Sk.bk bs k1).frm + (Sk.bk bs k1).size)
    (hS : SentB w A w.heap.size) (hD : Sk.dataN s.data.toList bs (Sk.lastF bs k0) (k1 + 1 - Sk.lastF bs k0) = .bad why j) :
    Calls Tryd.prog 23 #[.pointer (some ⟨g, 0, none⟩), .int .i64 f, .int .i64 c] w fun e w' => ∃ v, e = .returned (.tuple #[.string ⟨#[]⟩, v]) ∧ BadErr w' w.heap.size v j (A (why - 1)) ∧ Below w.heap.size w w' := by
  have hd := hG.dat
  obtain ⟨q00, q01, q02⟩ := q0
  obtain ⟨q10, q11, q12⟩ := q1
  have hkk : k0 ≤ k1 := by
    rcases Nat.lt_or_ge k1 k0 with h | h
    · have := hG.hi q12 k0 h q00
      omega
    · exact h
  have hlf := Sk.lastF_le bs k0
  have hfresh := hG.lastF_fresh k0 q00
  obtain ⟨fi, hfi⟩ : ∃ fi, fi = Sk.lastF bs k0 := ⟨_, rfl⟩
  have hfle : (Sk.bk bs fi).frm ≤ f := by have := hG.lo q00 q01 fi (by omega); omega
  rw [← hfi] at hlf hfresh hD
  have HFI : Hid (Sk.lastF bs k0 = fi) := hfi.symm
  have HP : Hid (PFile w B g s v bs d) := hP
  have HG : Hid (Sk.Good s.data.toList bs d) := hG
  have HD : Hid (Sk.dataN s.data.toList bs fi (k1 + 1 - fi) = .bad why j) := hD
  have HS : Hid (SentB w A w.heap.size) := hS
  have HFR : Hid ((Sk.bk bs fi).fresh = true) := hfresh
  have HQ0 : Hid ((Sk.bk bs k0).frm ≤ f ∧ f < (Sk.bk bs k0).frm + (Sk.bk bs k0).size) := ⟨q01, q02⟩
  have HQ1 : Hid ((Sk.bk bs k1).frm ≤ f + c - 1 ∧ f + c - 1 < (Sk.bk bs k1).frm + (Sk.bk bs k1).size) := ⟨q11, q12⟩
  have b1 : (0 : Int) ≤ (f : Int) := by omega
  have b2 : (0 : Int) ≤ (c : Int) := by omega
  have b3 : (c : Int) ≤ (d : Int) - f := by omega
  have b4 : ((c : Int) == 0) = false := by rw [beq_eq_false_iff_ne]; omega
  obtain ⟨vo, vcap, e⟩ := hP.row.form
  subst e
  clear q01 q02 q11 q12 hfi hP hG hD hfresh hS hfle
  go_enter Tryd.func23, Tryd.ntmps23
  go_wp2_with (go_at_call 21; refine (size_any w B g s _ bs d HP.out).mono ?_; rintro e w9 ⟨rfl, hw9⟩; rw [hw9]; clear hw9 w9)
  go_region_with (first | (go_at_call 37; refine (blockOf_any _ B g s _ bs d k0 f (HP.out.below ((Below.refl _ _).drew)) hl q00 (fun i hi => HG.out.lo q00 HQ0.out.1 i hi) (fun i hi h2 => HG.out.hi HQ0.out.2 i hi h2)).mono ?_; rintro e w1 ⟨rfl, hb1⟩; have HB1 : Hid (Below w.heap.size w w1) := (Below.refl _ _).drew.trans hb1; clear hb1) | (go_at_call 36; refine (lastFresh_any _ B g s _ bs d k0 (HP.out.below HB1.out) HG.out q00 hl).mono ?_; rw [HFI.out]; rintro e w8 ⟨rfl, hw8⟩; rw [hw8]; clear hw8 w8))
  all_goals
    go_wp2_with fail
    refine (blockOf_any w1 B g s _ bs d k1 _ (HP.out.below HB1.out) hl q10 (fun i hi => by have := HG.out.lo q10 HQ1.out.1 i hi; omega) (fun i hi h2 => by have := HG.out.hi HQ1.out.2 i hi h2; omega)).mono ?_
    rintro e w2 ⟨rfl, hb2⟩
    have HB2 : Hid (Below w.heap.size w w2) := HB1.out.trans (hb2.mono HB1.out.size)
    clear hb2
    go_wp2_with fail
    refine (unpackF_any B g s _ bs d fi k1 A w2 (HP.out.below HB2.out) HG.out hs hl (by omega) q10 HFR.out ⟨(HS.out.below HB2.out).s, Nat.le_trans HS.out.l HB2.out.size, fun i hi => Nat.lt_of_lt_of_le (HS.out.a i hi) HB2.out.size⟩).mono ?_
    rintro e w3 ⟨_, r1⟩
    obtain ⟨vb, rfl, hbad, hb3⟩ := r1 why j HD.out
    have HB3 : Hid (Below w.heap.size w w3) := HB2.out.trans (hb3.mono HB2.out.size)
    have HBAD : Hid (BadErr w3 w.heap.size vb j (A (why - 1))) := hbad.mono HB2.out.size
    obtain ⟨q, p, ff, hvb, _⟩ := hbad
    subst hvb
    clear r1 hb3
    go_wp2
    go_ret2
    exact ⟨_, rfl, HBAD.out, HB3.out⟩
end Go.Proofs.YtjahkaggaijpjaaDoor
