/- The program's Blocks, walked: a list of its own.
The index's own finders: blockOf (by sort.Search), lastFresh.
sort.Search over the index, and blockOf.
The blocks in a list of them. -/
import Derived.Test.YtafkpmjifgohcaaDoorChunkeduptoPart9
import Derived.Test.YtafkpmjifgohcaaDoorChunkeduptoPart10
import Derived.Test.YtafkpmjifgohcaaDoorPureRead2
namespace Go.Proofs.YtafkpmjifgohcaaDoor
open Go.RowKit

theorem Sk.cellsE_get (s : List UInt8) : ∀ (bs : List Sk.Blk) (k j : Nat), k < bs.length → j < 6 → (Sk.cellsE s bs)[k * 6 + j]? = (Sk.cells6 s (Sk.bk bs k))[j]?
  | [], k, _, h, _ => absurd h (Nat.not_lt_zero k)
  | b :: bs, 0, j, _, hj => by
    show (Sk.cells6 s b ++ Sk.cellsE s bs)[0 * 6 + j]? = _
    rw [Nat.zero_mul, Nat.zero_add, List.getElem?_append_left (by simp [Sk.cells6]; omega)]
    rfl
  | b :: bs, k + 1, j, h, hj => by
    show (Sk.cells6 s b ++ Sk.cellsE s bs)[(k + 1) * 6 + j]? = _
    rw [List.getElem?_append_right (by simp [Sk.cells6]; omega), show (k + 1) * 6 + j - (Sk.cells6 s b).length = k * 6 + j by simp [Sk.cells6]; omega]
    exact Sk.cellsE_get s bs k j (by simpa using h) hj

theorem Sk.cellsE_length (s : List UInt8) (bs : List Sk.Blk) : (Sk.cellsE s bs).length = bs.length * 6 := by
  induction bs with
  | nil => rfl
  | cons b bs ih => simp only [Sk.cellsE, List.flatMap_cons, List.length_append] at ih ⊢; rw [ih]; simp [Sk.cells6]; omega

theorem Sk.take_bk (bs : List Sk.Blk) (k : Nat) (h : k < bs.length) : bs.take (k + 1) = bs.take k ++ [Sk.bk bs k] := by
  rw [List.take_add_one, List.getElem?_eq_getElem h]
  unfold Sk.bk
  rw [List.getD_eq_getElem?_getD, List.getElem?_eq_getElem h]
  rfl

/-- The cells of one entry. -/
theorem PFile.entry {w : World} {B g : Nat} {s : ByteArray} {vo : Option Addr} {vcap : Nat} {bs : List Sk.Blk} {d : Nat} (h : PFile w B g s (.slice vo bs.length vcap) bs d) (k : Nat) (hk : k < bs.length) :
    ∃ a, vo = some ⟨a, 0, none⟩ ∧ a < w.heap.size ∧ ∀ j, j < 6 → w.cell? ⟨a, k * 6 + j, none⟩ = (Sk.cells6 s.data.toList (Sk.bk bs k))[j]? := by
  obtain ⟨a, rfl⟩ := h.row.some_of (by omega)
  refine ⟨a, rfl, h.row.lt a rfl, fun j hj => ?_⟩
  have hl := Sk.cellsE_length s.data.toList bs
  rw [h.row.cell (k * 6 + j) (by omega), ← Sk.cellsE_get s.data.toList bs k j hk hj, List.getElem?_eq_getElem (by omega)]

set_option maxRecDepth 100000 in
set_option maxHeartbeats 4000000 in
theorem blocks_any (w : World) (B g : Nat) (s : ByteArray) (v : Value) (bs : List Sk.Blk) (d : Nat) (h : PFile w B g s v bs d) (hn : bs.length ≤ 20000) :
    Calls Tryd.prog 17 #[.pointer (some ⟨g, 0, none⟩)] w fun e w' => Below w.heap.size w w' ∧ ∃ l, e = .returned l ∧ Rw w' 4 l bs.length (Sk.cellsOf bs) ∧ ∀ k, l.ownBlock = some k → w.heap.size ≤ k := by
  obtain ⟨vo, vcap, rfl⟩ := h.row.form
  have HP : Hid (PFile w B g s (.slice vo bs.length vcap) bs d) := h
  have c0 := h.cell 0
  simp at c0
  have hlt := h.lt
  obtain ⟨i, hi, hz, hsz, hby⟩ := info_parts Tryd.infoBlock
  have mk := run_make (P := Tryd.prog) w 35 45 i (.agg #[.int .i64 0, .int .i64 0, .int .i64 0, .bool false]) Tryd.underlying35 hi hz .i64 .i64 (bs.length : Int) (bs.length : Int) (by omega) (by omega) (by rw [hby]; omega) (by omega)
  simp only [Int.toNat_natCast] at mk
  obtain ⟨C, hC⟩ : ∃ C, C = madeCells (Value.agg #[.int .i64 0, .int .i64 0, .int .i64 0, .bool false]).cells (bs.length * i.size) := ⟨_, rfl⟩
  have hCs : C.size = bs.length * 4 := by rw [hC, size_madeCells, hsz]
  rw [← hC] at mk
  have HR0 : Hid (Rw (w.alloc (.cells C 45)) 4 (.slice (some ⟨w.heap.size, 0, none⟩) bs.length bs.length) bs.length ([] ++ C.toList)) := by
    refine ⟨by simp [hCs], .inr ⟨w.heap.size, bs.length, rfl, Nat.le_refl _, by simp, fun j hj => ?_, fun j hj => ?_, fun j hj => ?_⟩⟩
    · rw [World.cell?_alloc_new, Array.getElem?_eq_getElem (by omega)]; rfl
    · exact World.frozen?_alloc_at _ _ _ _ rfl
    · rw [World.cell?_alloc_new]
      have : j < C.size := by simpa using hj
      rw [Array.getElem?_eq_getElem this]
      simp
  have HB0 : Hid (Below w.heap.size w (w.alloc (.cells C 45))) := (Below.refl _ _).alloc (Nat.le_refl _) _
  have c0' := cell?_alloc_old (W := w) (.cells C 45) c0
  clear h hC hCs hi hz hsz hby
  go_enter Tryd.func17, Tryd.ntmps17
  go_wp2
  go_loopw [17] (fun i wr => ∃ k : Nat, ∃ ys, k ≤ bs.length ∧ i = .int .i64 k ∧ Rw wr 4 (.slice (some ⟨w.heap.size, 0, none⟩) bs.length bs.length) bs.length (Sk.cellsOf (bs.take k) ++ ys) ∧ Below w.heap.size w wr) (fun i _ => bs.length - (intOf i).toNat)
  case atStart => exact ⟨0, C.toList, by omega, rfl, HR0.out, HB0.out⟩
  case round =>
    obtain ⟨k, ys, hk, rfl, hR, hB⟩ := hrel
    have HR : Hid (Rw wr 4 (.slice (some ⟨w.heap.size, 0, none⟩) bs.length bs.length) bs.length (Sk.cellsOf (bs.take k) ++ ys)) := hR
    have HB : Hid (Below w.heap.size w wr) := hB
    have hzw : w.heap.size < wr.heap.size := hR.lt _ rfl
    clear hR hB mk HR0 HB0 c0 c0'
    by_cases hlk : k < bs.length
    · obtain ⟨a, rfl, ha, hc⟩ := HP.out.entry k hlk
      have carry : ∀ j x, w.cell? ⟨a, j, none⟩ = some x → wr.cell? ⟨a, j, none⟩ = some x := fun j x h => (HB.out.cell (p := ⟨a, j, none⟩) ha).trans h
      have e0 := carry _ _ (hc 0 (by decide))
      have e1 := carry _ _ (hc 1 (by decide))
      have e2 := carry _ _ (hc 2 (by decide))
      have e3 := carry _ _ (hc 3 (by decide))
      have e4 := carry _ _ (hc 4 (by decide))
      have e5 := carry _ _ (hc 5 (by decide))
      simp only [Nat.add_zero] at e0
      have hal : a < wr.heap.size := by omega
      have HX : Hid (∀ y, Rw wr 4 (.slice (some ⟨w.heap.size, 0, none⟩) bs.length bs.length) bs.length y → y = Sk.cellsOf (bs.take k) ++ ys → Rw (wr.setCells w.heap.size (k * 4) (Sk.bk bs k).cells) 4 (.slice (some ⟨w.heap.size, 0, none⟩) bs.length bs.length) bs.length (Sk.cellsOf (bs.take (k + 1)) ++ ys.drop 4)) := fun y h1 h2 => by
        rw [h2] at h1
        rw [Sk.take_bk bs k hlk, Sk.cellsOf_snoc]
        exact h1.put rfl (by rw [Sk.cellsOf_length, List.length_take]; omega) hlk
      obtain ⟨v0, y0, z0⟩ := HR.out.there (k * 4) (by omega)
      obtain ⟨v1, y1, z1⟩ := HR.out.there (k * 4 + 1) (by omega)
      obtain ⟨v2, y2, z2⟩ := HR.out.there (k * 4 + 2) (by omega)
      obtain ⟨v3, y3, z3⟩ := HR.out.there (k * 4 + 3) (by omega)
      have kk : (k : Int) < (bs.length : Int) := by omega
      clear carry hc
      generalize Sk.bk bs k = b at *
      obtain ⟨b0, b1, b2, b3⟩ := b
      go_wp2
      go_roundw
      case rel =>
        refine ⟨k + 1, ys.drop 4, by omega, by go_num, (HX.out _ HR.out rfl).below ((Below.refl _ _).alloc (Nat.le_refl _) _), ?_⟩
        exact ((((HB.out.setCell (Nat.le_refl _) _).setCell (Nat.le_refl _) _).setCell (Nat.le_refl _) _).setCell (Nat.le_refl _) _).alloc (by simp; omega) _
      case measure => simp [intOf]; omega
    · go_wp2
      go_ret
      refine ⟨HB.out, _, rfl, ?_, fun k hk => by cases hk; exact Nat.le_refl _⟩
      have hl := HR.out.1
      rw [List.length_append, Sk.cellsOf_length, List.length_take] at hl
      have h0 : ys = [] := List.length_eq_zero_iff.1 (by omega)
      have := HR.out
      rw [h0, List.append_nil, List.take_of_length_le (by omega)] at this
      exact this
end Go.Proofs.YtafkpmjifgohcaaDoor

namespace Go.Proofs.YtafkpmjifgohcaaDoor
open Go.RowKit

set_option maxHeartbeats 2000000 in
theorem lastFresh_any (w : World) (B g : Nat) (s : ByteArray) (v : Value) (bs : List Sk.Blk) (d n : Nat) (h : PFile w B g s v bs d) (hG : Sk.Good s.data.toList bs d) (hn : n < bs.length) (hl : bs.length ≤ 20000) :
    Calls Tryd.prog 38 #[.pointer (some ⟨g, 0, none⟩), .int .i64 n] w fun e w' => e = .returned (.int .i64 (Sk.lastF bs n)) ∧ w' = w := by
  obtain ⟨vo, vcap, rfl⟩ := h.row.form
  have HP : Hid (PFile w B g s (.slice vo bs.length vcap) bs d) := h
  have HG : Hid (Sk.Good s.data.toList bs d) := hG
  have c0 := h.cell 0
  simp at c0
  clear h hG
  go_enter Tryd.func38, Tryd.ntmps38
  go_wp2
  go_loop [1] (fun i => ∃ j : Nat, j ≤ n ∧ i = .int .i64 j ∧ Sk.lastF bs j = Sk.lastF bs n) (fun i => (intOf i).toNat)
  case atStart => exact ⟨n, Nat.le_refl _, rfl, rfl⟩
  case round =>
    obtain ⟨j, hj, rfl, hinv⟩ := hrel
    have HI : Hid (Sk.lastF bs j = Sk.lastF bs n) := hinv
    clear hinv
    obtain ⟨a, rfl, ha, hc⟩ := HP.out.entry j (by omega)
    have x3 := hc 3 (by decide)
    simp [Sk.cells6] at x3
    have kk : (j : Int) < (bs.length : Int) := by omega
    clear hc
    cases hf : (Sk.bk bs j).fresh with
    | true =>
      rw [hf] at x3
      have HL : Hid (Sk.lastF bs j = j) := Sk.lastF_of_fresh bs j hf
      clear hf
      go_wp2
      go_ret
      exact ⟨ret_nat (by rw [← HI.out, HL.out]), rfl⟩
    | false =>
      rw [hf] at x3
      have hj0 : 0 < j := by
        rcases Nat.eq_zero_or_pos j with e | e
        · subst e; rw [(HG.out.fst (by omega)).1] at hf; cases hf
        · exact e
      have HL : Hid (Sk.lastF bs (j - 1) = Sk.lastF bs j) := by
        show _ = _
        have := Sk.lastF_not_fresh bs (j - 1) (by rw [show j - 1 + 1 = j by omega]; exact hf)
        rw [show j - 1 + 1 = j by omega] at this
        exact this.symm
      clear hf
      go_wp2
      go_round
      case rel => exact ⟨j - 1, by omega, by go_num, by rw [HL.out]; exact HI.out⟩
      case measure => simp [intOf]; omega

set_option maxHeartbeats 2000000 in
theorem clo_any (w : World) (B g bx bz : Nat) (s : ByteArray) (v : Value) (bs : List Sk.Blk) (d i : Nat) (p : Int) (h : PFile w B g s v bs d) (hi : i < bs.length) (_hl : bs.length ≤ 20000) (h1 : w.cell? ⟨bx, 0, none⟩ = some (.pointer (some ⟨g, 0, none⟩))) (h2 : w.cell? ⟨bz, 0, none⟩ = some (.int .i64 p)) :
    Calls Tryd.prog 63 #[.int .i64 i, .pointer (some ⟨bx, 0, none⟩), .pointer (some ⟨bz, 0, none⟩)] w fun e w' => e = .returned (.bool (decide (p < ((Sk.bk bs i).frm : Int)))) ∧ Below w.heap.size w w' := by
  obtain ⟨vo, vcap, rfl⟩ := h.row.form
  have c0 := h.cell 0
  simp at c0
  obtain ⟨a, rfl, ha, hc⟩ := h.entry i hi
  have x0 := hc 0 (by decide)
  simp [Sk.cells6] at x0
  have kk : (i : Int) < (bs.length : Int) := by omega
  clear hc h
  go_enter Tryd.func63, Tryd.ntmps63
  go_wp2_with fail
  go_quiet (fail)
  go_wp2
  go_ret
  exact ⟨rfl, below_drewN (Below.refl _ _) _⟩

end Go.Proofs.YtafkpmjifgohcaaDoor

namespace Go.Proofs.YtafkpmjifgohcaaDoor
open Go.RowKit

set_option maxHeartbeats 4000000 in
theorem search_any (w : World) (B g bx bz : Nat) (s : ByteArray) (v : Value) (bs : List Sk.Blk) (d k : Nat) (p : Int) (h : PFile w B g s v bs d) (hl : bs.length ≤ 20000) (hk : k < bs.length) (h1 : w.cell? ⟨bx, 0, none⟩ = some (.pointer (some ⟨g, 0, none⟩))) (h2 : w.cell? ⟨bz, 0, none⟩ = some (.int .i64 p))
    (lo : ∀ i, i ≤ k → ((Sk.bk bs i).frm : Int) ≤ p) (hi : ∀ i, k < i → i < bs.length → p < ((Sk.bk bs i).frm : Int)) :
    Calls Tryd.prog 62 #[.int .i64 bs.length, .func (.func 63) #[] #[.pointer (some ⟨bx, 0, none⟩), .pointer (some ⟨bz, 0, none⟩)]] w fun e w' => e = .returned (.int .i64 ((k + 1 : Nat) : Int)) ∧ Below w.heap.size w w' := by
  have HP : Hid (PFile w B g s v bs d) := h
  have H1 : Hid (w.cell? ⟨bx, 0, none⟩ = some (.pointer (some ⟨g, 0, none⟩))) := h1
  have H2 : Hid (w.cell? ⟨bz, 0, none⟩ = some (.int .i64 p)) := h2
  have HLO : Hid (∀ i, i ≤ k → ((Sk.bk bs i).frm : Int) ≤ p) := lo
  have HHI : Hid (∀ i, k < i → i < bs.length → p < ((Sk.bk bs i).frm : Int)) := hi
  clear h h1 h2 lo hi
  go_enter Tryd.func62, Tryd.ntmps62
  go_wp2
  go_loopw [5, 6] (fun x y wr => ∃ a b : Nat, x = .int .i64 a ∧ y = .int .i64 b ∧ a ≤ k + 1 ∧ k + 1 ≤ b ∧ b ≤ bs.length ∧ Below w.heap.size w wr) (fun x y _ => (intOf y).toNat - (intOf x).toNat)
  case atStart => exact ⟨0, bs.length, rfl, rfl, by omega, by omega, Nat.le_refl _, Below.refl _ _⟩
  case round =>
    obtain ⟨a, b, rfl, rfl, ha, hb, hbl, hbel⟩ := hrel
    have HB : Hid (Below w.heap.size w wr) := hbel
    clear hbel
    by_cases hab : a < b
    · obtain ⟨m, hm⟩ : ∃ m, m = (a + b) / 2 := ⟨_, rfl⟩
      have hc := clo_any wr B g bx bz s v bs d m p (HP.out.below HB.out) (by omega) hl ((HB.out.cell (p := ⟨bx, 0, none⟩) (cell_lt H1.out)).trans H1.out) ((HB.out.cell (p := ⟨bz, 0, none⟩) (cell_lt H2.out)).trans H2.out)
      have hmi : ((a : Int) + (b : Int)) / 2 = (m : Int) := by omega
      rw [← hmi] at hc
      by_cases hmk : m ≤ k
      · rw [decide_eq_false (by have := HLO.out m hmk; omega)] at hc
        have HC : Hid (Calls Tryd.prog 63 #[.int .i64 (((a : Int) + (b : Int)) / 2), .pointer (some ⟨bx, 0, none⟩), .pointer (some ⟨bz, 0, none⟩)] wr fun e w' => e = .returned (.bool false) ∧ Below wr.heap.size wr w') := hc
        have HMI : Hid (((a : Int) + (b : Int)) / 2 = (m : Int)) := hmi
        have HM : Hid (m = (a + b) / 2) := hm
        clear hc hmi hm
        go_wp2_with (go_at_call 63; refine Calls.mono HC.out ?_; rintro e w' ⟨rfl, hb2⟩; have HB2 : Hid (Below w.heap.size w w') := HB.out.trans (hb2.mono HB.out.size); clear hb2)
        go_roundw
        case rel => exact ⟨m + 1, b, by rw [HMI.out]; go_num, rfl, by omega, hb, hbl, HB2.out⟩
        case measure => have := HM.out; rw [HMI.out]; simp [intOf]; omega
      · rw [decide_eq_true (HHI.out m (by omega) (by omega))] at hc
        have HC : Hid (Calls Tryd.prog 63 #[.int .i64 (((a : Int) + (b : Int)) / 2), .pointer (some ⟨bx, 0, none⟩), .pointer (some ⟨bz, 0, none⟩)] wr fun e w' => e = .returned (.bool true) ∧ Below wr.heap.size wr w') := hc
        have HMI : Hid (((a : Int) + (b : Int)) / 2 = (m : Int)) := hmi
        have HM : Hid (m = (a + b) / 2) := hm
        clear hc hmi hm
        go_wp2_with (go_at_call 63; refine Calls.mono HC.out ?_; rintro e w' ⟨rfl, hb2⟩; have HB2 : Hid (Below w.heap.size w w') := HB.out.trans (hb2.mono HB.out.size); clear hb2)
        go_roundw
        case rel => exact ⟨a, m, rfl, by rw [HMI.out], ha, by omega, by have := HM.out; omega, HB2.out⟩
        case measure => have := HM.out; rw [HMI.out]; simp [intOf]; omega
    · obtain rfl : a = k + 1 := by omega
      go_wp2
      go_ret
      exact ⟨rfl, HB.out⟩

set_option maxHeartbeats 2000000 in
/-- The block in which a byte of the data is. -/
theorem blockOf_any (w : World) (B g : Nat) (s : ByteArray) (v : Value) (bs : List Sk.Blk) (d k : Nat) (p : Int) (h : PFile w B g s v bs d) (hl : bs.length ≤ 20000) (hk : k < bs.length) (lo : ∀ i, i ≤ k → ((Sk.bk bs i).frm : Int) ≤ p) (hi : ∀ i, k < i → i < bs.length → p < ((Sk.bk bs i).frm : Int)) :
    Calls Tryd.prog 39 #[.pointer (some ⟨g, 0, none⟩), .int .i64 p] w fun e w' => e = .returned (.int .i64 k) ∧ Below w.heap.size w w' := by
  have hmf : ∀ (fn : Fn) (first cap : Array Value) (w : World), (Instr.makeFunc fn first cap).run Tryd.prog w = .ok (.func fn first cap) w := fun _ _ _ _ => rfl
  obtain ⟨vo, vcap, rfl⟩ := h.row.form
  have hlt := h.lt
  have c0 := h.cell 0
  simp at c0
  have HP : Hid (PFile w B g s (.slice vo bs.length vcap) bs d) := h
  have HLO : Hid (∀ i, i ≤ k → ((Sk.bk bs i).frm : Int) ≤ p) := lo
  have HHI : Hid (∀ i, k < i → i < bs.length → p < ((Sk.bk bs i).frm : Int)) := hi
  clear h lo hi
  go_enter Tryd.func39, Tryd.ntmps39
  go_wp2_with fail
  refine (search_any _ B g w.heap.size (w.heap.size + 1) s _ bs d k p (HP.out.below (((Below.refl _ _).alloc (Nat.le_refl _) _).alloc (by simp) _)) hl hk (by simp) (by exact World.cell?_alloc_at (w := w.alloc _) _ _ _ _ (by simp)) HLO.out HHI.out).mono ?_
  rintro e w1 ⟨rfl, hb⟩
  go_wp2
  go_ret
  exact ⟨ret_int (by omega), (((Below.refl _ _).alloc (Nat.le_refl _) _).alloc (by simp) _).trans (hb.mono (by simp; omega))⟩
end Go.Proofs.YtafkpmjifgohcaaDoor

namespace Go.Proofs.YtafkpmjifgohcaaDoor
open Go.RowKit

theorem Sk.cellsOf_get : ∀ (bs : List Sk.Blk) (k j : Nat), k < bs.length → j < 4 → (Sk.cellsOf bs)[k * 4 + j]? = (Sk.bk bs k).cells[j]?
  | [], k, _, h, _ => absurd h (Nat.not_lt_zero k)
  | b :: bs, 0, j, _, hj => by
    show (b.cells ++ Sk.cellsOf bs)[0 * 4 + j]? = _
    rw [Nat.zero_mul, Nat.zero_add, List.getElem?_append_left (by simp [Sk.Blk.cells]; omega)]
    rfl
  | b :: bs, k + 1, j, h, hj => by
    show (b.cells ++ Sk.cellsOf bs)[(k + 1) * 4 + j]? = _
    rw [List.getElem?_append_right (by simp [Sk.Blk.cells]; omega), show (k + 1) * 4 + j - b.cells.length = k * 4 + j by simp [Sk.Blk.cells]; omega]
    exact Sk.cellsOf_get bs k j (by simpa using h) hj

/-- The cells of one block in a list of them. -/
theorem Rw.blk {w : World} {lo : Option Addr} {cap : Nat} {bs : List Sk.Blk} (h : Rw w 4 (.slice lo bs.length cap) bs.length (Sk.cellsOf bs)) (k : Nat) (hk : k < bs.length) :
    ∃ a, lo = some ⟨a, 0, none⟩ ∧ ∀ j, j < 4 → w.cell? ⟨a, k * 4 + j, none⟩ = (Sk.bk bs k).cells[j]? := by
  obtain ⟨a, rfl⟩ := h.some_of (by omega)
  refine ⟨a, rfl, fun j hj => ?_⟩
  have hl := Sk.cellsOf_length bs
  rw [h.cell (k * 4 + j) (by omega), ← Sk.cellsOf_get bs k j hk hj, List.getElem?_eq_getElem (by omega)]

end Go.Proofs.YtafkpmjifgohcaaDoor
