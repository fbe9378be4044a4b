/- What the program and the document answer to ReadAt, side by side.
The law's own step on Check.
The law's own steps on ReadAt and Check, and the law All. -/
import Derived.Test.YtafkpmjifgohcaaGreatDoorAlluptoPart31
import Derived.Test.YtafkpmjifgohcaaGreatDoorAlluptoPart36
import Derived.Test.YtafkpmjifgohcaaGreatDoorAlluptoPart35
import Derived.Test.YtafkpmjifgohcaaGreatDoorAlluptoPart23
namespace Go.Proofs.YtafkpmjifgohcaaGreatDoor
open Go.RowKit

theorem SentB.upW {w W : World} {A : Nat → Addr} (h : SentB w A w.heap.size) (hW : Below w.heap.size w W) : SentB W A W.heap.size :=
  ⟨(h.below hW).s, Nat.le_trans h.l hW.size, fun i hi => Nat.lt_of_lt_of_le (h.a i hi) hW.size⟩

theorem both_read (f : FE) (A : Nat → Addr) (w : World) (hO : f.Ok w) (hS : SentB w A w.heap.size) (hT : ErrT w) (k2 k3 : Int) (h2 : Fits k2) :
    ∃ (t : ByteArray) (n j : Nat), (∀ W, Below w.heap.size w W → Calls Tryz.prog 14 #[.pointer (some ⟨f.g, 0, none⟩), .int .i64 k2, .int .i64 k3] W fun e w' => ∃ v, e = .returned (.tuple #[.string t, v]) ∧ Below w.heap.size w w' ∧
        ∀ W', Below w'.heap.size w' W' → Calls Tryz.prog 16 #[v] W' fun e w'' => e = .returned (.tuple #[.int .i64 n, .int .i64 j]) ∧ Below w.heap.size w w'') ∧
      ∀ W, Below w.heap.size w W → Calls Tryz.prog 15 #[.pointer (some ⟨f.h, 0, none⟩), .int .i64 k2, .int .i64 k3] W fun e w' => e = .returned (.tuple #[.string t, .int .i64 n, .int .i64 j]) ∧ Below W.heap.size W w' := by
  have hG : Sk.Good f.s.data.toList f.bs f.d := Sk.openR_good _
  have hl : f.bs.length ≤ 20000 := by have := Sk.openR_data f.s.data.toList; unfold FE.bs; omega
  have hz := hO.z
  have hdd := hG.dat
  have nn : ∀ {W w' W' : World}, Below w.heap.size w W → Below W.heap.size W w' → Below w'.heap.size w' W' → Below w.heap.size w W' := fun h h' h'' => (h.trans (h'.mono h.size)).trans (h''.mono (Nat.le_trans h.size h'.size))
  by_cases hr : k2 < 0 ∨ k3 < 0 ∨ (f.d : Int) - k2 < k3
  · refine ⟨⟨#[]⟩, 5, 0, fun W hW => ?_, fun W hW => ?_⟩
    · refine (readAt_range 0 f.g f.s f.v f.bs f.d k2 k3 (A 4) W (hO.p.below hW) hdd h2 hr ((hS.upW hW).s.cell 4 (by decide))).mono ?_
      rintro e w' ⟨rfl, hb⟩
      refine ⟨_, rfl, hW.trans (hb.mono hW.size), fun W' hW' => ?_⟩
      have hw := nn hW hb hW'
      refine (number_range A W' (hS.upW hw).s).mono ?_
      rintro e w'' ⟨rfl, hb''⟩
      exact ⟨rfl, hw.trans (hb''.mono hw.size)⟩
    · exact refReadAt_range W 0 f.h f.s f.u f.bs f.d k2 k3 (hO.r.below hW) hdd h2 hr
  · obtain ⟨p, rfl⟩ : ∃ p : Nat, k2 = (p : Int) := ⟨k2.toNat, by omega⟩
    obtain ⟨c, rfl⟩ : ∃ c : Nat, k3 = (c : Int) := ⟨k3.toNat, by omega⟩
    have hpc : p + c ≤ f.d := by omega
    clear hr
    rcases Nat.eq_zero_or_pos c with rfl | hc
    · refine ⟨⟨#[]⟩, 0, 0, fun W hW => ?_, fun W hW => ?_⟩
      · refine (readAt_zero 0 f.g f.s f.v f.bs f.d p W (hO.p.below hW) hdd (by omega)).mono ?_
        rintro e w' ⟨rfl, rfl⟩
        refine ⟨_, rfl, hW, fun W' hW' => ?_⟩
        have hw := nn hW (Below.refl _ _) hW'
        refine (number_nil W').mono ?_
        rintro e w'' ⟨rfl, hb''⟩
        exact ⟨rfl, hw.trans (hb''.mono hw.size)⟩
      · exact refReadAt_zero W 0 f.h f.s f.u f.bs f.d p (hO.r.below hW) hdd (by omega)
    · obtain ⟨k0, q0⟩ := hG.find p (by omega)
      obtain ⟨k1, q1⟩ := hG.find (p + c - 1) (by omega)
      cases hD : Sk.dataN f.s.data.toList f.bs (Sk.lastF f.bs k0) (k1 + 1 - Sk.lastF f.bs k0) with
      | good D =>
        refine ⟨⟨(Sk.sub D (p - (Sk.bk f.bs (Sk.lastF f.bs k0)).frm) (p - (Sk.bk f.bs (Sk.lastF f.bs k0)).frm + c)).toArray⟩, 0, 0, fun W hW => ?_, fun W hW => ?_⟩
        · refine (readAt_good 0 f.g f.s f.v f.bs f.d p c k0 k1 D (A 5) W (hO.p.below hW) hG hz hl hc hpc q0 q1 ((hS.upW hW).s.cell 5 (by decide)) hD).mono ?_
          rintro e w' ⟨rfl, hb⟩
          refine ⟨_, rfl, hW.trans (hb.mono hW.size), fun W' hW' => ?_⟩
          have hw := nn hW hb hW'
          refine (number_nil W').mono ?_
          rintro e w'' ⟨rfl, hb''⟩
          exact ⟨rfl, hw.trans (hb''.mono hw.size)⟩
        · refine (refReadAt_any W 0 f.h f.s f.u f.bs f.d p c k0 k1 (hO.r.below hW) hG hz hl hc hpc q0 q1).mono ?_
          rintro e w' ⟨hb, r0, _⟩
          exact ⟨r0 D hD, hb⟩
      | bad why j =>
        refine ⟨⟨#[]⟩, why, j, fun W hW => ?_, fun W hW => ?_⟩
        · have h67 : why = 6 ∨ why = 7 := by
            obtain ⟨_, _, a3, _⟩ := Sk.dataN_bad (hG.lastF_fresh k0 q0.1) _ _ _ hD
            exact Sk.upto_why7 _ _ _ _ _ a3
          refine (readAt_bad 0 f.g f.s f.v f.bs f.d p c k0 k1 why j A W (hO.p.below hW) hG hz hl hc hpc q0 q1 (hS.upW hW) hD).mono ?_
          rintro e w' ⟨v, rfl, hbad, hb⟩
          refine ⟨_, rfl, hW.trans (hb.mono hW.size), fun W' hW' => ?_⟩
          have hw := nn hW hb hW'
          refine (number_bad W.heap.size j why A v W' h67 (hbad.below hW' (Nat.le_refl _)) (hS.upW hw) (hT.below hw)).mono ?_
          rintro e w'' ⟨rfl, hb''⟩
          exact ⟨rfl, hw.trans (hb''.mono hw.size)⟩
        · refine (refReadAt_any W 0 f.h f.s f.u f.bs f.d p c k0 k1 (hO.r.below hW) hG hz hl hc hpc q0 q1).mono ?_
          rintro e w' ⟨hb, _, r1⟩
          exact ⟨r1 why j hD, hb⟩
end Go.Proofs.YtafkpmjifgohcaaGreatDoor

namespace Go.Proofs.YtafkpmjifgohcaaGreatDoor
open Go.RowKit

theorem SentB.up {w : World} {A : Nat → Addr} {B : Nat} (h : SentB w A B) (hB : B ≤ w.heap.size) : SentB w A w.heap.size :=
  ⟨h.s, Nat.le_trans h.l hB, fun i hi => Nat.lt_of_lt_of_le (h.a i hi) hB⟩

/-- A number of a list. -/
theorem rw_num {w : World} {lo : Option Addr} {n cap : Nat} {L : List Nat} (h : Rw w 1 (.slice lo n cap) n (L.map fun k : Nat => Value.int .i64 k)) (k : Nat) (hk : k < n) (hn : L.length = n) : ∃ a, lo = some ⟨a, 0, none⟩ ∧ w.cell? ⟨a, k, none⟩ = some (.int .i64 (L.getD k 0)) := by
  obtain ⟨a, rfl⟩ := h.some_of (by omega)
  refine ⟨a, rfl, ?_⟩
  rw [h.cell k (by rw [List.length_map]; omega), List.getElem_map, List.getD_eq_getElem?_getD, List.getElem?_eq_getElem (by omega)]
  rfl

set_option maxRecDepth 100000 in
set_option maxHeartbeats 4000000 in
theorem checks_wk (B b : Nat) (κ : Nat → Nat) (text : ByteArray) (vf vb vm vn vk : Value) (cnt : Nat) (F : List FE) (Lb : List Value) (Mb : List Int) (Ln : List Value) (Mn : List Int) (A : Nat → Addr) (w : World) (f : FE) (hk : Wk w B b κ text vf vb vm vn vk cnt F Lb Mb Ln Mn) (hf : f ∈ F) (hc : cnt + 2 ≤ 200000000) (hS : SentB w A B) (hT : ErrT w) :
    Calls Tryz.prog 17 #[.pointer (some ⟨b, 0, none⟩), .agg #[.pointer (some ⟨f.g, 0, none⟩), .pointer (some ⟨f.h, 0, none⟩)]] w fun e w' => e = .returned (.bool true) ∧ Below B w w' ∧ WKS w' B b (cnt + 2) := by
  have hlt := hk.lw.lt
  have hBw := hk.low
  obtain ⟨κ', hκ⟩ : ∃ κ' : Nat → Nat, κ' = fun k => if k < w.heap.size then κ k else 8 := ⟨_, rfl⟩
  have hκ8 : ∀ k, w.heap.size ≤ k → κ' k = 8 := fun k h => by rw [hκ]; exact if_neg (by omega)
  have HK8 : Hid (∀ k, w.heap.size ≤ k → κ' k = 8) := hκ8
  have HK : Hid (Wk w B b κ' text vf vb vm vn vk cnt F Lb Mb Ln Mn) := hk.recol (fun k h => by rw [hκ]; exact if_pos h)
  have HO : Hid (f.Ok w) := hk.fo f hf
  have hgl := (hk.fo f hf).lt f.g (.inl rfl)
  have hhl := (hk.fo f hf).lt f.h (.inr (.inl rfl))
  have hn : f.bs.length ≤ 20000 := by have := Sk.openR_data f.s.data.toList; unfold FE.bs; omega
  have HGD : Hid (Sk.Good f.s.data.toList f.bs f.d) := Sk.openR_good _
  have HSS : Hid (SentB w A w.heap.size) := hS.up hBw
  have HT : Hid (ErrT w) := hT
  clear hk hf hκ hκ8 hS hT
  obtain ⟨g, v, h, u, s⟩ := f
  dsimp only at hgl hhl ⊢
  have hsz : s.size ≤ 65536 := HO.out.z
  generalize hbs : FE.bs ⟨g, v, h, u, s⟩ = bs at hn HGD
  generalize hdd : FE.d ⟨g, v, h, u, s⟩ = d at HGD
  have HBS : Hid (FE.bs ⟨g, v, h, u, s⟩ = bs) := hbs
  have HDD : Hid (FE.d ⟨g, v, h, u, s⟩ = d) := hdd
  dsimp only at HGD
  clear hbs hdd
  obtain ⟨L, hL⟩ : ∃ L, L = Sk.badL s.data.toList bs bs.length := ⟨_, rfl⟩
  have hLn : L.length ≤ 20000 := by have := Sk.badL_length s.data.toList bs bs.length; rw [hL]; omega
  have HL : Hid (L = Sk.badL s.data.toList bs bs.length) := hL
  clear hL
  obtain ⟨nb, hnb⟩ : ∃ nb, nb = L.length := ⟨_, rfl⟩
  rw [← hnb] at hLn
  have HNB : Hid (L.length = nb) := hnb.symm
  clear hnb
  have HCK : Hid (∀ W, Below w.heap.size w W → Calls Tryz.prog 32 #[.pointer (some ⟨g, 0, none⟩)] W fun e w' => ∃ l, e = .returned l ∧ Rw w' 1 l nb (L.map fun k : Nat => Value.int .i64 k) ∧ Gr W (.slice none 0 0) w' l) := fun W hW => by
    have hp := HO.out.p.below hW
    rw [HBS.out, HDD.out] at hp
    have := check_any 0 g s v bs d A W hp HGD.out hsz hn ((HSS.out.below hW).up hW.size) (HT.out.below hW)
    rw [← HL.out, HNB.out] at this
    exact this
  have HCR : Hid (∀ W, Below w.heap.size w W → Calls Tryz.prog 33 #[.pointer (some ⟨h, 0, none⟩)] W fun e w' => ∃ l, e = .returned l ∧ Rw w' 1 l nb (L.map fun k : Nat => Value.int .i64 k) ∧ Gr W (.slice none 0 0) w' l) := fun W hW => by
    have hp := HO.out.r.below hW
    rw [HBS.out, HDD.out] at hp
    have := refCheck_any W 0 h s u bs d hp HGD.out hsz hn
    rw [← HL.out, HNB.out] at this
    exact this
  go_enter Tryz.func17, Tryz.ntmps17
  go_wp2_with fail
  have HB0 : Hid (Below w.heap.size w (w.alloc (.cells #[.pointer (some ⟨g, 0, none⟩), .pointer (some ⟨h, 0, none⟩)] 40))) := (Below.refl _ _).alloc (Nat.le_refl _) _
  have hbox : (w.alloc (.cells #[.pointer (some ⟨g, 0, none⟩), .pointer (some ⟨h, 0, none⟩)] 40)).heap[w.heap.size]? = some (.cells #[.pointer (some ⟨g, 0, none⟩), .pointer (some ⟨h, 0, none⟩)] 40 (0, 0)) := heap_alloc_new _ _
  have HBOX : Hid ((w.alloc (.cells #[.pointer (some ⟨g, 0, none⟩), .pointer (some ⟨h, 0, none⟩)] 40)).heap[w.heap.size]? = some (.cells #[.pointer (some ⟨g, 0, none⟩), .pointer (some ⟨h, 0, none⟩)] 40 (0, 0))) := hbox
  have hz0 : (w.alloc (.cells #[.pointer (some ⟨g, 0, none⟩), .pointer (some ⟨h, 0, none⟩)] 40)).heap.size = w.heap.size + 1 := by simp
  clear hbox
  generalize w.alloc (.cells #[.pointer (some ⟨g, 0, none⟩), .pointer (some ⟨h, 0, none⟩)] 40) = w1 at HB0 HBOX hz0 ⊢
  have hz1 : w.heap.size < w1.heap.size := by omega
  have HZ0 : Hid (w1.heap.size = w.heap.size + 1) := hz0
  clear hz0
  refine Calls.mono (HCK.out w1 HB0.out) ?_
  rintro e w2 ⟨l, rfl, hl, hg2⟩
  have hb2 := gr_nil_below hg2
  have HB2 : Hid (Below w1.heap.size w1 w2) := hb2
  have HBw2 : Hid (Below w.heap.size w w2) := HB0.out.trans (hb2.mono HB0.out.size)
  have HL1 : Hid (Rw w2 1 l nb (L.map fun k : Nat => Value.int .i64 k)) := hl
  have HLO : Hid (∀ k, l.ownBlock = some k → w1.heap.size ≤ k) := gr_nil_low hg2
  have hz2 : w1.heap.size ≤ w2.heap.size := hb2.size
  have b2 : w2.cell? ⟨w.heap.size, 0, none⟩ = some (.pointer (some ⟨g, 0, none⟩)) := by
    have := (hb2.block w.heap.size hz1).trans HBOX.out
    simp [World.cell?, this]
  clear hb2 hl hg2
  go_wp2_with fail
  refine Calls.mono (HCK.out w2 HBw2.out) ?_
  rintro e w3 ⟨l2, rfl, hl2, hg3⟩
  have hb3 := gr_nil_below hg3
  have HB3 : Hid (Below w2.heap.size w2 w3) := hb3
  have HBw3 : Hid (Below w.heap.size w w3) := HBw2.out.trans (hb3.mono HBw2.out.size)
  have HL13 : Hid (Rw w3 1 l nb (L.map fun k : Nat => Value.int .i64 k)) := HL1.out.below hb3
  have HL2 : Hid (Rw w3 1 l2 nb (L.map fun k : Nat => Value.int .i64 k)) := hl2
  have HLO2 : Hid (∀ k, l2.ownBlock = some k → w2.heap.size ≤ k) := gr_nil_low hg3
  have HLT : Hid (∀ k, l.ownBlock = some k → k < w2.heap.size) := HL1.out.lt
  have hz3 : w2.heap.size ≤ w3.heap.size := hb3.size
  have b3 : w3.cell? ⟨w.heap.size, 1, none⟩ = some (.pointer (some ⟨h, 0, none⟩)) := by
    have := ((hb3.block w.heap.size (by omega)).trans (HB2.out.block w.heap.size hz1)).trans HBOX.out
    simp [World.cell?, this]
  clear hb3 hl2 hg3 b2 HL1 HBOX HB0
  go_wp2_with fail
  refine Calls.mono (HCR.out w3 HBw3.out) ?_
  rintro e w4 ⟨l3, rfl, hl3, hg4⟩
  have hb4 := gr_nil_below hg4
  have HB4 : Hid (Below w3.heap.size w3 w4) := hb4
  have HBw4 : Hid (Below w.heap.size w w4) := HBw3.out.trans (hb4.mono HBw3.out.size)
  have HA1 : Hid (Rw w4 1 l nb (L.map fun k : Nat => Value.int .i64 k)) := HL13.out.below hb4
  have HA2 : Hid (Rw w4 1 l2 nb (L.map fun k : Nat => Value.int .i64 k)) := HL2.out.below hb4
  have HA3 : Hid (Rw w4 1 l3 nb (L.map fun k : Nat => Value.int .i64 k)) := hl3
  have HW4 : Hid (Wk w4 B b κ' text vf vb vm vn vk cnt F Lb Mb Ln Mn) := HK.out.below HBw4.out
  have hz4 : w3.heap.size ≤ w4.heap.size := hb4.size
  clear hb4 hl3 hg4 b3 HL13 HL2 HO HK HCK HCR HBw2 HBw3
  obtain ⟨lo, lcap, rfl⟩ := HA1.out.form
  obtain ⟨lo2, lcap2, rfl⟩ := HA2.out.form
  obtain ⟨lo3, lcap3, rfl⟩ := HA3.out.form
  go_wp2_with fail
  go_loopw [8, 9] (fun o i wr => ∃ k : Nat, k ≤ nb ∧ o = .bool true ∧ i = .int .i64 k ∧ Below w4.heap.size w4 wr) (fun _ i _ => nb - (intOf i).toNat)
  case atStart => exact ⟨0, by omega, by simp, rfl, Below.refl _ _⟩
  case round =>
    obtain ⟨k, hk, rfl, rfl, hbr⟩ := hrel
    have HBR : Hid (Below w4.heap.size w4 wr) := hbr
    clear hbr
    by_cases hlk : k < nb
    · obtain ⟨a1, rfl, x1⟩ := rw_num (HA1.out.below HBR.out) k hlk HNB.out
      obtain ⟨a2, rfl, x2⟩ := rw_num (HA2.out.below HBR.out) k hlk HNB.out
      obtain ⟨a3, rfl, x3⟩ := rw_num (HA3.out.below HBR.out) k hlk HNB.out
      generalize L.getD k 0 = y at x1 x2 x3
      have kk : (k : Int) < (nb : Int) := by omega
      go_wp2_with fail
      go_quiet (fail)
      go_wp2
      go_roundw
      case rel => exact ⟨k + 1, by omega, rfl, by go_num, below_drewN HBR.out _⟩
      case measure => simp [intOf]; omega
    · have HBW2 : Hid (Below w.heap.size w wr) := HBw4.out.trans (HBR.out.mono (by omega))
      have HWR : Hid (Wk wr B b κ' text vf vb vm vn vk cnt F Lb Mb Ln Mn) := HW4.out.below HBR.out
      have HLR : Hid (Rw wr 1 (.slice lo nb lcap) nb (L.map fun k : Nat => Value.int .i64 k)) := HA1.out.below HBR.out
      have HLR2 : Hid (Rw wr 1 (.slice lo2 nb lcap2) nb (L.map fun k : Nat => Value.int .i64 k)) := HA2.out.below HBR.out
      have hzr : w4.heap.size ≤ wr.heap.size := HBR.out.size
      have HC8 : Hid (∀ k, (Value.slice lo nb lcap).ownBlock = some k → κ' k = 8) := fun k hk => HK8.out k (by have := HLO.out k hk; omega)
      have HC82 : Hid (∀ k, (Value.slice lo2 nb lcap2).ownBlock = some k → κ' k = 8) := fun k hk => HK8.out k (by have := HLO2.out k hk; omega)
      have HCB : Hid (∀ k, (Value.slice lo nb lcap).ownBlock = some k → B ≤ k) := fun k hk => by have := HLO.out k hk; omega
      have HCB2 : Hid (∀ k, (Value.slice lo2 nb lcap2).ownBlock = some k → B ≤ k) := fun k hk => by have := HLO2.out k hk; omega
      have HNE : Hid (∀ k, (Value.slice lo2 nb lcap2).ownBlock = some k → (Value.slice lo nb lcap).ownBlock ≠ some k) := fun k hk e => by have := HLO2.out k hk; have := HLT.out k e; omega
      clear HB2 HB3 HB4 HBR HBw4 HA1 HA2 HA3 HW4
      go_wp2_with fail
      obtain ⟨p1, p2, p3, p4⟩ := HWR.out.apartN HC8.out
      refine (ints_any b text vf vb vm vn vk _ cnt nb Ln Mn _ wr HWR.out.lw HWR.out.pn HLR.out p1 p2 p3 p4 (by omega) (by omega) (by have := HWR.out.cb.2; omega)).mono ?_
      clear p1 p2 p3 p4
      rintro e w5 ⟨rfl, nn, lc, vn', vk', L', M', hj, h4, _, hv⟩
      obtain ⟨κ4, hk4, hb4, hx4⟩ := HWR.out.ints HC8.out HCB.out (n := nb) (by omega) hj h4 hv
      have HW5 : Hid (Wk w5 B b κ4 text vf vb vm vn' vk' (cnt + 1) F Lb Mb (Ln ++ L') (Mn ++ M')) := hk4
      have HB5 : Hid (Below B wr w5) := hb4
      have HLR4 : Hid (Rw w5 1 (.slice lo2 nb lcap2) nb (L.map fun k : Nat => Value.int .i64 k)) := HLR2.out.kept hb4.size (fun k hk => (hx4 k (HLR2.out.lt k hk) (HC82.out k hk) (HNE.out k hk)).2)
      have HC84 : Hid (∀ k, (Value.slice lo2 nb lcap2).ownBlock = some k → κ4 k = 8) := fun k hk => (hx4 k (HLR2.out.lt k hk) (HC82.out k hk) (HNE.out k hk)).1
      clear hk4 hb4 hx4 hj hv h4 HLR2 HLR
      go_wp2_with fail
      obtain ⟨p1, p2, p3, p4⟩ := HW5.out.apartN HC84.out
      refine (ints_any b text vf vb vm vn' vk' _ (cnt + 1) nb (Ln ++ L') (Mn ++ M') _ w5 HW5.out.lw HW5.out.pn HLR4.out p1 p2 p3 p4 (by omega) (by omega) (by have := HW5.out.cb.2; omega)).mono ?_
      clear p1 p2 p3 p4
      rintro e w6 ⟨rfl, nn2, lc2, vn2, vk2, L2, M2, hj, h4, _, hv⟩
      obtain ⟨κ5, hk5, hb5, _⟩ := HW5.out.ints HC84.out HCB2.out (n := nb) (by omega) hj h4 hv
      have HW6 : Hid (Wk w6 B b κ5 text vf vb vm vn2 vk2 (cnt + 1 + 1) F Lb Mb (Ln ++ L' ++ L2) (Mn ++ M' ++ M2)) := hk5
      have HB6 : Hid (Below B w5 w6) := hb5
      clear hk5 hb5 hj hv h4
      go_wp2
      go_ret
      exact ⟨rfl, ((HBW2.out.mono hBw).trans HB5.out).trans HB6.out, κ5, text, vf, vb, vm, vn2, vk2, cnt + 1 + 1, F, Lb, Mb, _, _, by omega, HW6.out⟩
end Go.Proofs.YtafkpmjifgohcaaGreatDoor

namespace Go.Proofs.YtafkpmjifgohcaaGreatDoor
open Go.RowKit

/-- Two boxes that were made, one behind the other. -/
theorem two_boxes (w : World) (c d : Array Value) (s t : TypeId) : ((w.alloc (.cells c s)).alloc (.cells d t)).drew.heap[w.heap.size]? = some (.cells c s (0, 0)) ∧ ((w.alloc (.cells c s)).alloc (.cells d t)).drew.heap[w.heap.size + 1]? = some (.cells d t (0, 0)) ∧ ((w.alloc (.cells c s)).alloc (.cells d t)).drew.heap.size = w.heap.size + 2 := by
  have h1 := heap_alloc_new w (.cells c s)
  have h2 := heap_alloc_new (w.alloc (.cells c s)) (.cells d t)
  have hz : (w.alloc (.cells c s)).heap.size = w.heap.size + 1 := by simp
  have hb : Below (w.alloc (.cells c s)).heap.size (w.alloc (.cells c s)) ((w.alloc (.cells c s)).alloc (.cells d t)) := (Below.refl _ _).alloc (Nat.le_refl _) _
  refine ⟨(hb.block w.heap.size (by omega)).trans h1, ?_, ?_⟩
  · rw [hz] at h2; exact h2
  · show ((w.alloc (.cells c s)).alloc (.cells d t)).heap.size = _
    simp

set_option maxRecDepth 100000 in
set_option maxHeartbeats 4000000 in
theorem step_six (B b c : Nat) (A : Nat → Addr) (k0 k1 k2 k3 : Int) (s : ByteArray) (lo : Option Addr) (n cap : Nat) (w : World) (hw : WKS w B b c) (hS : SentB w A B) (hf : Fits k1) (hf2 : Fits k2) (hc : c + 2 ≤ 200000000) (hT : ErrT w) (h56 : k0 = 5 ∨ k0 = 6) :
    Calls Tryz.prog 7 #[.pointer (some ⟨b, 0, none⟩), .agg #[.int .i64 k0, .int .i64 k1, .int .i64 k2, .int .i64 k3, .string s, .slice lo n cap]] w fun e w' => e = .returned (.bool true) ∧ Below B w w' ∧ WKS w' B b (c + 2) := by
  have HX : Hid (Below w.heap.size w (w.alloc (.cells #[.int .i64 k0, .int .i64 k1, .int .i64 k2, .int .i64 k3, .string s, .slice lo n cap] 35))) := (Below.refl _ _).alloc (Nat.le_refl _) _
  have HW : Hid (WKS w B b c) := hw
  have hBw : B ≤ w.heap.size := by obtain ⟨κ, text, vf, vb, vm, vn, vk, cnt, F, Lb, Mb, Ln, Mn, _, h⟩ := hw; exact h.low
  have HS : Hid (SentB w A B) := hS
  have HFT : Hid (Fits k1) := hf
  have HF2 : Hid (Fits k2) := hf2
  have HT : Hid (ErrT w) := hT
  have e1 : (k0 == 1) = false := by rw [beq_eq_false_iff_ne]; omega
  have e2 : (k0 == 2) = false := by rw [beq_eq_false_iff_ne]; omega
  have e3 : (k0 == 3) = false := by rw [beq_eq_false_iff_ne]; omega
  have e4 : (k0 == 4) = false := by rw [beq_eq_false_iff_ne]; omega
  have H56 : Hid (k0 = 5 ∨ k0 = 6) := h56
  clear hw hS hf hf2 hT h56
  obtain ⟨κ, text, vf, vb, vm, vn, vk, cnt, F, Lb, Mb, Ln, Mn, hcc, hk⟩ := HW.out
  have HCC : Hid (cnt ≤ c) := hcc
  obtain ⟨fo, fcap, rfl⟩ := hk.rf.form
  have d1 := hk.lw.cell 1
  simp at d1
  have hlt := hk.lw.lt
  have HK : Hid (Wk w B b κ text (.slice fo F.length fcap) vb vm vn vk cnt F Lb Mb Ln Mn) := hk
  have hfl := hk.fl
  clear hcc hk
  by_cases h0 : F.length = 0
  · have e0 : ((F.length : Int) == 0) = true := by rw [h0]; rfl
    clear h0
    go_enter Tryz.func7, Tryz.ntmps7
    go_wp2
    go_ret
    exact ⟨rfl, HX.out.mono hBw, (HW.out.below HX.out).mono (by omega)⟩
  · have e0 : ((F.length : Int) == 0) = false := by rw [beq_eq_false_iff_ne]; omega
    obtain ⟨a, rfl, ha, hel⟩ := HK.out.file (by omega)
    obtain ⟨kk, hkk, hpk⟩ := pick_det k1 F.length HFT.out (by omega) (by omega)
    obtain ⟨f, hfm, hf0, hf1⟩ := hel kk hkk
    have HPK : Hid (∀ w, Calls Tryz.prog 11 #[.int .i64 k1, .int .i64 F.length] w fun e w' => e = .returned (.int .i64 kk) ∧ w' = w) := hpk
    have HFM : Hid (f ∈ F) := hfm
    have hki : (kk : Int) < (F.length : Int) := by omega
    have hki0 : (0 : Int) ≤ (kk : Int) := by omega
    clear hel hpk hfm hkk
    have t1 := World.new_ne w ⟨a, kk * 2, none⟩ hf0
    have t2 := World.new_ne w ⟨b, 1, none⟩ d1
    go_enter Tryz.func7, Tryz.ntmps7
    go_wp2_with fail
    refine (fun hrest : Hid ?P10 => ?main10) ?rest10
    case main10 =>
      go_region_held3 (fun w' => w'.cell? ⟨b, 1, none⟩ = some (.slice (some ⟨a, 0, none⟩) F.length fcap) ∧ w'.cell? ⟨w.heap.size, 1, none⟩ = some (.int .i64 k1) ∧ w'.cell? ⟨a, kk * 2, none⟩ = some (.pointer (some ⟨f.g, 0, none⟩)) ∧ w'.cell? ⟨a, kk * 2 + 1, none⟩ = some (.pointer (some ⟨f.h, 0, none⟩))) (go_keep) ((go_at_call 11; refine (HPK.out _).mono ?_; rintro e w' ⟨rfl, rfl⟩))
      all_goals exact hrest.out
    case rest10 =>
      unfold Hid
      have HB2 : Hid (Below w.heap.size w ((w.alloc (.cells #[.int .i64 k0, .int .i64 k1, .int .i64 k2, .int .i64 k3, .string s, .slice lo n cap] 35)).alloc (.cells #[.pointer (some ⟨f.g, 0, none⟩), .pointer (some ⟨f.h, 0, none⟩)] 40)).drew) := (((Below.refl _ _).alloc (Nat.le_refl _) _).alloc (by simp) _).drew
      have g0 : ((w.alloc (.cells #[.int .i64 k0, .int .i64 k1, .int .i64 k2, .int .i64 k3, .string s, .slice lo n cap] 35)).alloc (.cells #[.pointer (some ⟨f.g, 0, none⟩), .pointer (some ⟨f.h, 0, none⟩)] 40)).drew.cell? ⟨w.heap.size, 0, none⟩ = some (.int .i64 k0) := by simp
      have g1 : ((w.alloc (.cells #[.int .i64 k0, .int .i64 k1, .int .i64 k2, .int .i64 k3, .string s, .slice lo n cap] 35)).alloc (.cells #[.pointer (some ⟨f.g, 0, none⟩), .pointer (some ⟨f.h, 0, none⟩)] 40)).drew.cell? ⟨w.heap.size + 1, 0, none⟩ = some (.pointer (some ⟨f.g, 0, none⟩)) := by
        exact World.cell?_alloc_at (w := w.alloc (.cells #[.int .i64 k0, .int .i64 k1, .int .i64 k2, .int .i64 k3, .string s, .slice lo n cap] 35)) _ _ _ _ (by simp)
      have g2 : ((w.alloc (.cells #[.int .i64 k0, .int .i64 k1, .int .i64 k2, .int .i64 k3, .string s, .slice lo n cap] 35)).alloc (.cells #[.pointer (some ⟨f.g, 0, none⟩), .pointer (some ⟨f.h, 0, none⟩)] 40)).drew.cell? ⟨w.heap.size + 1, 1, none⟩ = some (.pointer (some ⟨f.h, 0, none⟩)) := by
        exact World.cell?_alloc_at (w := w.alloc (.cells #[.int .i64 k0, .int .i64 k1, .int .i64 k2, .int .i64 k3, .string s, .slice lo n cap] 35)) _ _ _ _ (by simp)
      have HBX : Hid (((w.alloc (.cells #[.int .i64 k0, .int .i64 k1, .int .i64 k2, .int .i64 k3, .string s, .slice lo n cap] 35)).alloc (.cells #[.pointer (some ⟨f.g, 0, none⟩), .pointer (some ⟨f.h, 0, none⟩)] 40)).drew.heap[w.heap.size]? = some (.cells #[.int .i64 k0, .int .i64 k1, .int .i64 k2, .int .i64 k3, .string s, .slice lo n cap] 35 (0, 0)) ∧ ((w.alloc (.cells #[.int .i64 k0, .int .i64 k1, .int .i64 k2, .int .i64 k3, .string s, .slice lo n cap] 35)).alloc (.cells #[.pointer (some ⟨f.g, 0, none⟩), .pointer (some ⟨f.h, 0, none⟩)] 40)).drew.heap[w.heap.size + 1]? = some (.cells #[.pointer (some ⟨f.g, 0, none⟩), .pointer (some ⟨f.h, 0, none⟩)] 40 (0, 0)) ∧ ((w.alloc (.cells #[.int .i64 k0, .int .i64 k1, .int .i64 k2, .int .i64 k3, .string s, .slice lo n cap] 35)).alloc (.cells #[.pointer (some ⟨f.g, 0, none⟩), .pointer (some ⟨f.h, 0, none⟩)] 40)).drew.heap.size = w.heap.size + 2) := two_boxes w _ _ _ _
      generalize ((w.alloc (.cells #[.int .i64 k0, .int .i64 k1, .int .i64 k2, .int .i64 k3, .string s, .slice lo n cap] 35)).alloc (.cells #[.pointer (some ⟨f.g, 0, none⟩), .pointer (some ⟨f.h, 0, none⟩)] 40)).drew = W2 at HB2 HBX g0 g1 g2 ⊢
      have HW2 : Hid (Wk W2 B b κ text (.slice (some ⟨a, 0, none⟩) F.length fcap) vb vm vn vk cnt F Lb Mb Ln Mn) := HK.out.below HB2.out
      have hok := HW2.out.fo f HFM.out
      have HOK : Hid (f.Ok W2) := hok
      have r2 := hok.r.cell 2
      simp at r2
      clear hok t1 t2 hf0 hf1 d1
      have HS2 : Hid (SentB W2 A W2.heap.size) := SentB.up (HS.out.below (HB2.out.mono hBw)) (Nat.le_trans hBw HB2.out.size)
      have HT2 : Hid (ErrT W2) := HT.out.below HB2.out
      have hz2 : W2.heap.size = w.heap.size + 2 := HBX.out.2.2
      by_cases h5 : k0 = 5
      · have e5 : (k0 == 5) = true := by simpa using h5
        have g3 : W2.cell? ⟨w.heap.size, 2, none⟩ = some (.int .i64 k2) := by simp [World.cell?, HBX.out.1]
        have g4 : W2.cell? ⟨w.heap.size, 3, none⟩ = some (.int .i64 k3) := by simp [World.cell?, HBX.out.1]
        obtain ⟨t, m, j, hrp, hrr⟩ := both_read f A W2 HOK.out HS2.out HT2.out k2 k3 HF2.out
        have HRP : Hid (∀ W, Below W2.heap.size W2 W → Calls Tryz.prog 14 #[.pointer (some ⟨f.g, 0, none⟩), .int .i64 k2, .int .i64 k3] W fun e w' => ∃ v, e = .returned (.tuple #[.string t, v]) ∧ Below W2.heap.size W2 w' ∧
          ∀ W', Below w'.heap.size w' W' → Calls Tryz.prog 16 #[v] W' fun e w'' => e = .returned (.tuple #[.int .i64 m, .int .i64 j]) ∧ Below W2.heap.size W2 w'') := hrp
        have HRR : Hid (∀ W, Below W2.heap.size W2 W → Calls Tryz.prog 15 #[.pointer (some ⟨f.h, 0, none⟩), .int .i64 k2, .int .i64 k3] W fun e w' => e = .returned (.tuple #[.string t, .int .i64 m, .int .i64 j]) ∧ Below W.heap.size W w') := hrr
        clear h5 hrp hrr r2
        go_wp2_with fail
        refine Calls.mono (HRP.out W2 (Below.refl _ _)) ?_
        rintro e w3 ⟨v, rfl, hb3, hnum⟩
        have HB3 : Hid (Below W2.heap.size W2 w3) := hb3
        have HN : Hid (∀ W', Below w3.heap.size w3 W' → Calls Tryz.prog 16 #[v] W' fun e w'' => e = .returned (.tuple #[.int .i64 m, .int .i64 j]) ∧ Below W2.heap.size W2 w'') := hnum
        have i1 : w3.heap[w.heap.size]? = some (.cells #[.int .i64 k0, .int .i64 k1, .int .i64 k2, .int .i64 k3, .string s, .slice lo n cap] 35 (0, 0)) := (hb3.block _ (by omega)).trans HBX.out.1
        have i2 : w3.heap[w.heap.size + 1]? = some (.cells #[.pointer (some ⟨f.g, 0, none⟩), .pointer (some ⟨f.h, 0, none⟩)] 40 (0, 0)) := (hb3.block _ (by omega)).trans HBX.out.2.1
        have j2 : w3.cell? ⟨w.heap.size, 2, none⟩ = some (.int .i64 k2) := by simp [World.cell?, i1]
        have j3 : w3.cell? ⟨w.heap.size, 3, none⟩ = some (.int .i64 k3) := by simp [World.cell?, i1]
        have j4 : w3.cell? ⟨w.heap.size + 1, 1, none⟩ = some (.pointer (some ⟨f.h, 0, none⟩)) := by simp [World.cell?, i2]
        clear hb3 hnum i1 i2
        go_wp2_with fail
        refine Calls.mono (HRR.out w3 HB3.out) ?_
        rintro e w4 ⟨rfl, hb4⟩
        have HB4 : Hid (Below w3.heap.size w3 w4) := hb4
        clear hb4 j2 j3 j4
        go_wp2_with fail
        refine Calls.mono (HN.out w4 HB4.out) ?_
        rintro e w5 ⟨rfl, hb5⟩
        have HB5 : Hid (Below w.heap.size w w5) := HB2.out.trans (hb5.mono HB2.out.size)
        clear hb5
        go_wp2
        go_ret
        exact ⟨by simp, HB5.out.mono hBw, (HW.out.below HB5.out).mono (by omega)⟩
      · have h6 : k0 = 6 := by have := H56.out; omega
        have e5 : (k0 == 5) = false := by simpa using h5
        have e6 : (k0 == 6) = true := by simpa using h6
        clear h5 h6
        go_wp2_with fail
        refine (checks_wk B b κ text _ vb vm vn vk cnt F Lb Mb Ln Mn A W2 f HW2.out HFM.out (by have := HCC.out; omega) (HS.out.below (HB2.out.mono hBw)) HT2.out).mono ?_
        rintro e w3 ⟨rfl, hb3, hw3⟩
        go_wp2
        go_ret
        exact ⟨rfl, (HB2.out.mono hBw).trans hb3, hw3.mono (by have := HCC.out; omega)⟩

theorem stepsTo6 : StepsTo 6 ErrT := fun B b c A k0 k1 k2 k3 s lo n cap w hw hS hT hs hn hH hf hf2 _ hc hk => by
  by_cases h : k0 = 5 ∨ k0 = 6
  · exact step_six B b c A k0 k1 k2 k3 s lo n cap w hw hS hf hf2 hc hT h
  · exact step_wk B b c A k0 k1 k2 k3 s lo n cap w hw hS hs hn hH hf hc (by omega) (by omega)

/-- The law All: its script's steps lie in memory, or there are none. -/
theorem all_law (so : Option Addr) (len cap : Nat) (A : Nat → Addr) (w : World) (hlen : len ≤ 50000000) (hS : SentB w A w.heap.size) (hT : ErrT w)
    (hel : 0 < len → ∃ b off, so = some ⟨b, off, none⟩ ∧ ∀ i, i < len → ∃ k0 k1 k2 k3 s x n c, OpOk w b off i k0 k1 k2 k3 s x n c) :
    Calls Tryz.prog 5 #[.slice so len cap] w fun e w' => e = .returned (.bool true) ∧ Below w.heap.size w w' := by
  have HP : Hid (Calls Tryz.prog 6 #[.slice so len cap, .int .i64 6] w fun e w' => e = .returned (.bool true) ∧ Below w.heap.size w w') := played_to 6 _ stepsTo6 (by decide) (by decide) so len cap A w hlen hS (fun _ h => hT.below h) hel
  clear hS hel hT
  go_enter Tryz.func5, Tryz.ntmps5
  go_wp2_with fail
  refine Calls.mono HP.out ?_
  rintro e w1 ⟨rfl, hb⟩
  go_wp2
  go_ret
  exact ⟨rfl, hb⟩
end Go.Proofs.YtafkpmjifgohcaaGreatDoor
