/- The index's own finders: blockOf (by sort.Search), lastFresh.
sort.Search over the index, and blockOf. -/
import Derived.Test.YtafkpmjifgohcaaDoorFileBlocks
import Derived.Test.YtafkpmjifgohcaaDoorPureRead2
namespace Go.Proofs.YtafkpmjifgohcaaDoor
open Go.RowKit

set_option maxHeartbeats 2000000 in
theorem lastFresh_any (w : World) (B g : Nat) (s : ByteArray) (v : Value) (bs : List Sk.Blk) (d n : Nat) (h : PFile w B g s v bs d) (hG : Sk.Good s.data.toList bs d) (hn : n < bs.length) (hl : bs.length ≤ 20000) :
    Calls Tryd.prog 38 #[.pointer (some ⟨g, 0, none⟩), .int .i64 n] w fun e w' => e = .returned (.int .i64 (Sk.lastF bs n)) ∧ w' = w := by
  obtain ⟨vo, vcap, rfl⟩ := h.row.form
  have HP : Hid (PFile w B g s (.slice vo bs.length vcap) bs d) := h
  have HG : Hid (Sk.Good s.data.toList bs d) := hG
  have c0 := h.cell 0
  simp at c0
  clear h hG
  go_enter Tryd.func38, Tryd.ntmps38
  go_wp2
  go_loop [1] (fun i => ∃ j : Nat, j ≤ n ∧ i = .int .i64 j ∧ Sk.lastF bs j = Sk.lastF bs n) (fun i => (intOf i).toNat)
  case atStart => exact ⟨n, Nat.le_refl _, rfl, rfl⟩
  case round =>
    obtain ⟨j, hj, rfl, hinv⟩ := hrel
    have HI : Hid (Sk.lastF bs j = Sk.lastF bs n) := hinv
    clear hinv
    obtain ⟨a, rfl, ha, hc⟩ := HP.out.entry j (by omega)
    have x3 := hc 3 (by decide)
    simp [Sk.cells6] at x3
    have kk : (j : Int) < (bs.length : Int) := by omega
    clear hc
    cases hf : (Sk.bk bs j).fresh with
    | true =>
      rw [hf] at x3
      have HL : Hid (Sk.lastF bs j = j) := Sk.lastF_of_fresh bs j hf
      clear hf
      go_wp2
      go_ret
      exact ⟨ret_nat (by rw [← HI.out, HL.out]), rfl⟩
    | false =>
      rw [hf] at x3
      have hj0 : 0 < j := by
        rcases Nat.eq_zero_or_pos j with e | e
        · subst e; rw [(HG.out.fst (by omega)).1] at hf; cases hf
        · exact e
      have HL : Hid (Sk.lastF bs (j - 1) = Sk.lastF bs j) := by
        show _ = _
        have := Sk.lastF_not_fresh bs (j - 1) (by rw [show j - 1 + 1 = j by omega]; exact hf)
        rw [show j - 1 + 1 = j by omega] at this
        exact this.symm
      clear hf
      go_wp2
      go_round
      case rel => exact ⟨j - 1, by omega, by go_num, by rw [HL.out]; exact HI.out⟩
      case measure => simp [intOf]; omega

set_option maxHeartbeats 2000000 in
theorem clo_any (w : World) (B g bx bz : Nat) (s : ByteArray) (v : Value) (bs : List Sk.Blk) (d i : Nat) (p : Int) (h : PFile w B g s v bs d) (hi : i < bs.length) (_hl : bs.length ≤ 20000) (h1 : w.cell? ⟨bx, 0, none⟩ = some (.pointer (some ⟨g, 0, none⟩))) (h2 : w.cell? ⟨bz, 0, none⟩ = some (.int .i64 p)) :
    Calls Tryd.prog 63 #[.int .i64 i, .pointer (some ⟨bx, 0, none⟩), .pointer (some ⟨bz, 0, none⟩)] w fun e w' => e = .returned (.bool (decide (p < ((Sk.bk bs i).frm : Int)))) ∧ Below w.heap.size w w' := by
  obtain ⟨vo, vcap, rfl⟩ := h.row.form
  have c0 := h.cell 0
  simp at c0
  obtain ⟨a, rfl, ha, hc⟩ := h.entry i hi
  have x0 := hc 0 (by decide)
  simp [Sk.cells6] at x0
  have kk : (i : Int) < (bs.length : Int) := by omega
  clear hc h
  go_enter Tryd.func63, Tryd.ntmps63
  go_wp2_with fail
  go_quiet (fail)
  go_wp2
  go_ret
  exact ⟨rfl, below_drewN (Below.refl _ _) _⟩

end Go.Proofs.YtafkpmjifgohcaaDoor

namespace Go.Proofs.YtafkpmjifgohcaaDoor
open Go.RowKit

set_option maxHeartbeats 4000000 in
theorem search_any (w : World) (B g bx bz : Nat) (s : ByteArray) (v : Value) (bs : List Sk.Blk) (d k : Nat) (p : Int) (h : PFile w B g s v bs d) (hl : bs.length ≤ 20000) (hk : k < bs.length) (h1 : w.cell? ⟨bx, 0, none⟩ = some (.pointer (some ⟨g, 0, none⟩))) (h2 : w.cell? ⟨bz, 0, none⟩ = some (.int .i64 p))
    (lo : ∀ i, i ≤ k → ((Sk.bk bs i).frm : Int) ≤ p) (hi : ∀ i, k < i → i < bs.length → p < ((Sk.bk bs i).frm : Int)) :
    Calls Tryd.prog 62 #[.int .i64 bs.length, .func (.func 63) #[] #[.pointer (some ⟨bx, 0, none⟩), .pointer (some ⟨bz, 0, none⟩)]] w fun e w' => e = .returned (.int .i64 ((k + 1 : Nat) : Int)) ∧ Below w.heap.size w w' := by
  have HP : Hid (PFile w B g s v bs d) := h
  have H1 : Hid (w.cell? ⟨bx, 0, none⟩ = some (.pointer (some ⟨g, 0, none⟩))) := h1
  have H2 : Hid (w.cell? ⟨bz, 0, none⟩ = some (.int .i64 p)) := h2
  have HLO : Hid (∀ i, i ≤ k → ((Sk.bk bs i).frm : Int) ≤ p) := lo
  have HHI : Hid (∀ i, k < i → i < bs.length → p < ((Sk.bk bs i).frm : Int)) := hi
  clear h h1 h2 lo hi
  go_enter Tryd.func62, Tryd.ntmps62
  go_wp2
  go_loopw [5, 6] (fun x y wr => ∃ a b : Nat, x = .int .i64 a ∧ y = .int .i64 b ∧ a ≤ k + 1 ∧ k + 1 ≤ b ∧ b ≤ bs.length ∧ Below w.heap.size w wr) (fun x y _ => (intOf y).toNat - (intOf x).toNat)
  case atStart => exact ⟨0, bs.length, rfl, rfl, by omega, by omega, Nat.le_refl _, Below.refl _ _⟩
  case round =>
    obtain ⟨a, b, rfl, rfl, ha, hb, hbl, hbel⟩ := hrel
    have HB : Hid (Below w.heap.size w wr) := hbel
    clear hbel
    by_cases hab : a < b
    · obtain ⟨m, hm⟩ : ∃ m, m = (a + b) / 2 := ⟨_, rfl⟩
      have hc := clo_any wr B g bx bz s v bs d m p (HP.out.below HB.out) (by omega) hl ((HB.out.cell (p := ⟨bx, 0, none⟩) (cell_lt H1.out)).trans H1.out) ((HB.out.cell (p := ⟨bz, 0, none⟩) (cell_lt H2.out)).trans H2.out)
      have hmi : ((a : Int) + (b : Int)) / 2 = (m : Int) := by omega
      rw [← hmi] at hc
      by_cases hmk : m ≤ k
      · rw [decide_eq_false (by have := HLO.out m hmk; omega)] at hc
        have HC : Hid (Calls Tryd.prog 63 #[.int .i64 (((a : Int) + (b : Int)) / 2), .pointer (some ⟨bx, 0, none⟩), .pointer (some ⟨bz, 0, none⟩)] wr fun e w' => e = .returned (.bool false) ∧ Below wr.heap.size wr w') := hc
        have HMI : Hid (((a : Int) + (b : Int)) / 2 = (m : Int)) := hmi
        have HM : Hid (m = (a + b) / 2) := hm
        clear hc hmi hm
        go_wp2_with (go_at_call 63; refine Calls.mono HC.out ?_; rintro e w' ⟨rfl, hb2⟩; have HB2 : Hid (Below w.heap.size w w') := HB.out.trans (hb2.mono HB.out.size); clear hb2)
        go_roundw
        case rel => exact ⟨m + 1, b, by rw [HMI.out]; go_num, rfl, by omega, hb, hbl, HB2.out⟩
        case measure => have := HM.out; rw [HMI.out]; simp [intOf]; omega
      · rw [decide_eq_true (HHI.out m (by omega) (by omega))] at hc
        have HC : Hid (Calls Tryd.prog 63 #[.int .i64 (((a : Int) + (b : Int)) / 2), .pointer (some ⟨bx, 0, none⟩), .pointer (some ⟨bz, 0, none⟩)] wr fun e w' => e = .returned (.bool true) ∧ Below wr.heap.size wr w') := hc
        have HMI : Hid (((a : Int) + (b : Int)) / 2 = (m : Int)) := hmi
        have HM : Hid (m = (a + b) / 2) := hm
        clear hc hmi hm
        go_wp2_with (go_at_call 63; refine Calls.mono HC.out ?_; rintro e w' ⟨rfl, hb2⟩; have HB2 : Hid (Below w.heap.size w w') := HB.out.trans (hb2.mono HB.out.size); clear hb2)
        go_roundw
        case rel => exact ⟨a, m, rfl, by rw [HMI.out], ha, by omega, by have := HM.out; omega, HB2.out⟩
        case measure => have := HM.out; rw [HMI.out]; simp [intOf]; omega
    · obtain rfl : a = k + 1 := by omega
      go_wp2
      go_ret
      exact ⟨rfl, HB.out⟩

set_option maxHeartbeats 2000000 in
/-- The block in which a byte of the data is. -/
theorem blockOf_any (w : World) (B g : Nat) (s : ByteArray) (v : Value) (bs : List Sk.Blk) (d k : Nat) (p : Int) (h : PFile w B g s v bs d) (hl : bs.length ≤ 20000) (hk : k < bs.length) (lo : ∀ i, i ≤ k → ((Sk.bk bs i).frm : Int) ≤ p) (hi : ∀ i, k < i → i < bs.length → p < ((Sk.bk bs i).frm : Int)) :
    Calls Tryd.prog 39 #[.pointer (some ⟨g, 0, none⟩), .int .i64 p] w fun e w' => e = .returned (.int .i64 k) ∧ Below w.heap.size w w' := by
  have hmf : ∀ (fn : Fn) (first cap : Array Value) (w : World), (Instr.makeFunc fn first cap).run Tryd.prog w = .ok (.func fn first cap) w := fun _ _ _ _ => rfl
  obtain ⟨vo, vcap, rfl⟩ := h.row.form
  have hlt := h.lt
  have c0 := h.cell 0
  simp at c0
  have HP : Hid (PFile w B g s (.slice vo bs.length vcap) bs d) := h
  have HLO : Hid (∀ i, i ≤ k → ((Sk.bk bs i).frm : Int) ≤ p) := lo
  have HHI : Hid (∀ i, k < i → i < bs.length → p < ((Sk.bk bs i).frm : Int)) := hi
  clear h lo hi
  go_enter Tryd.func39, Tryd.ntmps39
  go_wp2_with fail
  refine (search_any _ B g w.heap.size (w.heap.size + 1) s _ bs d k p (HP.out.below (((Below.refl _ _).alloc (Nat.le_refl _) _).alloc (by simp) _)) hl hk (by simp) (by exact World.cell?_alloc_at (w := w.alloc _) _ _ _ _ (by simp)) HLO.out HHI.out).mono ?_
  rintro e w1 ⟨rfl, hb⟩
  go_wp2
  go_ret
  exact ⟨ret_int (by omega), (((Below.refl _ _).alloc (Nat.le_refl _) _).alloc (by simp) _).trans (hb.mono (by simp; omega))⟩
end Go.Proofs.YtafkpmjifgohcaaDoor
