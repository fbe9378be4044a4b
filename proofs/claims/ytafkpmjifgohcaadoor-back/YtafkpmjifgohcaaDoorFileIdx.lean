/- The index's own finders: blockOf (by sort.Search), lastFresh. -/
import Derived.Test.YtafkpmjifgohcaaDoorFileBlocks
import Derived.Test.YtafkpmjifgohcaaDoorPureRead2
namespace Go.Proofs.YtafkpmjifgohcaaDoor
open Go.RowKit

set_option maxHeartbeats 2000000 in
theorem lastFresh_any (w : World) (B g : Nat) (s : ByteArray) (v : Value) (bs : List Sk.Blk) (d n : Nat) (h : PFile w B g s v bs d) (hG : Sk.Good s.data.toList bs d) (hn : n < bs.length) (hl : bs.length ≤ 20000) :
    Calls Tryd.prog 38 #[.pointer (some ⟨g, 0, none⟩), .int .i64 n] w fun e w' => e = .returned (.int .i64 (Sk.lastF bs n)) ∧ w' = w := by
  obtain ⟨vo, vcap, rfl⟩ := h.row.form
  have HP : Hid (PFile w B g s (.slice vo bs.length vcap) bs d) := h
  have HG : Hid (Sk.Good s.data.toList bs d) := hG
  have c0 := h.cell 0
  simp at c0
  clear h hG
  go_enter Tryd.func38, Tryd.ntmps38
  go_wp2
  go_loop [1] (fun i => ∃ j : Nat, j ≤ n ∧ i = .int .i64 j ∧ Sk.lastF bs j = Sk.lastF bs n) (fun i => (intOf i).toNat)
  case atStart => exact ⟨n, Nat.le_refl _, rfl, rfl⟩
  case round =>
    obtain ⟨j, hj, rfl, hinv⟩ := hrel
    have HI : Hid (Sk.lastF bs j = Sk.lastF bs n) := hinv
    clear hinv
    obtain ⟨a, rfl, ha, hc⟩ := HP.out.entry j (by omega)
    have x3 := hc 3 (by decide)
    simp [Sk.cells6] at x3
    have kk : (j : Int) < (bs.length : Int) := by omega
    clear hc
    cases hf : (Sk.bk bs j).fresh with
    | true =>
      rw [hf] at x3
      have HL : Hid (Sk.lastF bs j = j) := Sk.lastF_of_fresh bs j hf
      clear hf
      go_wp2
      go_ret
      exact ⟨ret_nat (by rw [← HI.out, HL.out]), rfl⟩
    | false =>
      rw [hf] at x3
      have hj0 : 0 < j := by
        rcases Nat.eq_zero_or_pos j with e | e
        · subst e; rw [(HG.out.fst (by omega)).1] at hf; cases hf
        · exact e
      have HL : Hid (Sk.lastF bs (j - 1) = Sk.lastF bs j) := by
        show _ = _
        have := Sk.lastF_not_fresh bs (j - 1) (by rw [show j - 1 + 1 = j by omega]; exact hf)
        rw [show j - 1 + 1 = j by omega] at this
        exact this.symm
      clear hf
      go_wp2
      go_round
      case rel => exact ⟨j - 1, by omega, by go_num, by rw [HL.out]; exact HI.out⟩
      case measure => simp [intOf]; omega

set_option maxHeartbeats 2000000 in
theorem clo_any (w : World) (B g bx bz : Nat) (s : ByteArray) (v : Value) (bs : List Sk.Blk) (d i : Nat) (p : Int) (h : PFile w B g s v bs d) (hi : i < bs.length) (_hl : bs.length ≤ 20000) (h1 : w.cell? ⟨bx, 0, none⟩ = some (.pointer (some ⟨g, 0, none⟩))) (h2 : w.cell? ⟨bz, 0, none⟩ = some (.int .i64 p)) :
    Calls Tryd.prog 63 #[.int .i64 i, .pointer (some ⟨bx, 0, none⟩), .pointer (some ⟨bz, 0, none⟩)] w fun e w' => e = .returned (.bool (decide (p < ((Sk.bk bs i).frm : Int)))) ∧ Below w.heap.size w w' := by
  obtain ⟨vo, vcap, rfl⟩ := h.row.form
  have c0 := h.cell 0
  simp at c0
  obtain ⟨a, rfl, ha, hc⟩ := h.entry i hi
  have x0 := hc 0 (by decide)
  simp [Sk.cells6] at x0
  have kk : (i : Int) < (bs.length : Int) := by omega
  clear hc h
  go_enter Tryd.func63, Tryd.ntmps63
  go_wp2_with fail
  go_quiet (fail)
  go_wp2
  go_ret
  exact ⟨rfl, below_drewN (Below.refl _ _) _⟩

end Go.Proofs.YtafkpmjifgohcaaDoor
