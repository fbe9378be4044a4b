/- The program's Blocks, walked: a list of its own. -/
import Derived.Test.YtafkpmjifgohcaaDoorFileOpenC
import Derived.Test.YtafkpmjifgohcaaDoorRowB
namespace Go.Proofs.YtafkpmjifgohcaaDoor
open Go.RowKit

theorem Sk.cellsE_get (s : List UInt8) : ∀ (bs : List Sk.Blk) (k j : Nat), k < bs.length → j < 6 → (Sk.cellsE s bs)[k * 6 + j]? = (Sk.cells6 s (Sk.bk bs k))[j]?
  | [], k, _, h, _ => absurd h (Nat.not_lt_zero k)
  | b :: bs, 0, j, _, hj => by
    show (Sk.cells6 s b ++ Sk.cellsE s bs)[0 * 6 + j]? = _
    rw [Nat.zero_mul, Nat.zero_add, List.getElem?_append_left (by simp [Sk.cells6]; omega)]
    rfl
  | b :: bs, k + 1, j, h, hj => by
    show (Sk.cells6 s b ++ Sk.cellsE s bs)[(k + 1) * 6 + j]? = _
    rw [List.getElem?_append_right (by simp [Sk.cells6]; omega), show (k + 1) * 6 + j - (Sk.cells6 s b).length = k * 6 + j by simp [Sk.cells6]; omega]
    exact Sk.cellsE_get s bs k j (by simpa using h) hj

theorem Sk.cellsE_length (s : List UInt8) (bs : List Sk.Blk) : (Sk.cellsE s bs).length = bs.length * 6 := by
  induction bs with
  | nil => rfl
  | cons b bs ih => simp only [Sk.cellsE, List.flatMap_cons, List.length_append] at ih ⊢; rw [ih]; simp [Sk.cells6]; omega

theorem Sk.take_bk (bs : List Sk.Blk) (k : Nat) (h : k < bs.length) : bs.take (k + 1) = bs.take k ++ [Sk.bk bs k] := by
  rw [List.take_add_one, List.getElem?_eq_getElem h]
  unfold Sk.bk
  rw [List.getD_eq_getElem?_getD, List.getElem?_eq_getElem h]
  rfl

/-- The cells of one entry. -/
theorem PFile.entry {w : World} {B g : Nat} {s : ByteArray} {vo : Option Addr} {vcap : Nat} {bs : List Sk.Blk} {d : Nat} (h : PFile w B g s (.slice vo bs.length vcap) bs d) (k : Nat) (hk : k < bs.length) :
    ∃ a, vo = some ⟨a, 0, none⟩ ∧ a < w.heap.size ∧ ∀ j, j < 6 → w.cell? ⟨a, k * 6 + j, none⟩ = (Sk.cells6 s.data.toList (Sk.bk bs k))[j]? := by
  obtain ⟨a, rfl⟩ := h.row.some_of (by omega)
  refine ⟨a, rfl, h.row.lt a rfl, fun j hj => ?_⟩
  have hl := Sk.cellsE_length s.data.toList bs
  rw [h.row.cell (k * 6 + j) (by omega), ← Sk.cellsE_get s.data.toList bs k j hk hj, List.getElem?_eq_getElem (by omega)]

set_option maxRecDepth 100000 in
set_option maxHeartbeats 4000000 in
theorem blocks_any (w : World) (B g : Nat) (s : ByteArray) (v : Value) (bs : List Sk.Blk) (d : Nat) (h : PFile w B g s v bs d) (hn : bs.length ≤ 20000) :
    Calls Tryd.prog 17 #[.pointer (some ⟨g, 0, none⟩)] w fun e w' => Below w.heap.size w w' ∧ ∃ l, e = .returned l ∧ Rw w' 4 l bs.length (Sk.cellsOf bs) ∧ ∀ k, l.ownBlock = some k → w.heap.size ≤ k := by
  obtain ⟨vo, vcap, rfl⟩ := h.row.form
  have HP : Hid (PFile w B g s (.slice vo bs.length vcap) bs d) := h
  have c0 := h.cell 0
  simp at c0
  have hlt := h.lt
  obtain ⟨i, hi, hz, hsz, hby⟩ := info_parts Tryd.infoBlock
  have mk := run_make (P := Tryd.prog) w 35 45 i (.agg #[.int .i64 0, .int .i64 0, .int .i64 0, .bool false]) Tryd.underlying35 hi hz .i64 .i64 (bs.length : Int) (bs.length : Int) (by omega) (by omega) (by rw [hby]; omega) (by omega)
  simp only [Int.toNat_natCast] at mk
  obtain ⟨C, hC⟩ : ∃ C, C = madeCells (Value.agg #[.int .i64 0, .int .i64 0, .int .i64 0, .bool false]).cells (bs.length * i.size) := ⟨_, rfl⟩
  have hCs : C.size = bs.length * 4 := by rw [hC, size_madeCells, hsz]
  rw [← hC] at mk
  have HR0 : Hid (Rw (w.alloc (.cells C 45)) 4 (.slice (some ⟨w.heap.size, 0, none⟩) bs.length bs.length) bs.length ([] ++ C.toList)) := by
    refine ⟨by simp [hCs], .inr ⟨w.heap.size, bs.length, rfl, Nat.le_refl _, by simp, fun j hj => ?_, fun j hj => ?_, fun j hj => ?_⟩⟩
    · rw [World.cell?_alloc_new, Array.getElem?_eq_getElem (by omega)]; rfl
    · exact World.frozen?_alloc_at _ _ _ _ rfl
    · rw [World.cell?_alloc_new]
      have : j < C.size := by simpa using hj
      rw [Array.getElem?_eq_getElem this]
      simp
  have HB0 : Hid (Below w.heap.size w (w.alloc (.cells C 45))) := (Below.refl _ _).alloc (Nat.le_refl _) _
  have c0' := cell?_alloc_old (W := w) (.cells C 45) c0
  clear h hC hCs hi hz hsz hby
  go_enter Tryd.func17, Tryd.ntmps17
  go_wp2
  go_loopw [17] (fun i wr => ∃ k : Nat, ∃ ys, k ≤ bs.length ∧ i = .int .i64 k ∧ Rw wr 4 (.slice (some ⟨w.heap.size, 0, none⟩) bs.length bs.length) bs.length (Sk.cellsOf (bs.take k) ++ ys) ∧ Below w.heap.size w wr) (fun i _ => bs.length - (intOf i).toNat)
  case atStart => exact ⟨0, C.toList, by omega, rfl, HR0.out, HB0.out⟩
  case round =>
    obtain ⟨k, ys, hk, rfl, hR, hB⟩ := hrel
    have HR : Hid (Rw wr 4 (.slice (some ⟨w.heap.size, 0, none⟩) bs.length bs.length) bs.length (Sk.cellsOf (bs.take k) ++ ys)) := hR
    have HB : Hid (Below w.heap.size w wr) := hB
    have hzw : w.heap.size < wr.heap.size := hR.lt _ rfl
    clear hR hB mk HR0 HB0 c0 c0'
    by_cases hlk : k < bs.length
    · obtain ⟨a, rfl, ha, hc⟩ := HP.out.entry k hlk
      have carry : ∀ j x, w.cell? ⟨a, j, none⟩ = some x → wr.cell? ⟨a, j, none⟩ = some x := fun j x h => (HB.out.cell (p := ⟨a, j, none⟩) ha).trans h
      have e0 := carry _ _ (hc 0 (by decide))
      have e1 := carry _ _ (hc 1 (by decide))
      have e2 := carry _ _ (hc 2 (by decide))
      have e3 := carry _ _ (hc 3 (by decide))
      have e4 := carry _ _ (hc 4 (by decide))
      have e5 := carry _ _ (hc 5 (by decide))
      simp only [Nat.add_zero] at e0
      have hal : a < wr.heap.size := by omega
      have HX : Hid (∀ y, Rw wr 4 (.slice (some ⟨w.heap.size, 0, none⟩) bs.length bs.length) bs.length y → y = Sk.cellsOf (bs.take k) ++ ys → Rw (wr.setCells w.heap.size (k * 4) (Sk.bk bs k).cells) 4 (.slice (some ⟨w.heap.size, 0, none⟩) bs.length bs.length) bs.length (Sk.cellsOf (bs.take (k + 1)) ++ ys.drop 4)) := fun y h1 h2 => by
        rw [h2] at h1
        rw [Sk.take_bk bs k hlk, Sk.cellsOf_snoc]
        exact h1.put rfl (by rw [Sk.cellsOf_length, List.length_take]; omega) hlk
      obtain ⟨v0, y0, z0⟩ := HR.out.there (k * 4) (by omega)
      obtain ⟨v1, y1, z1⟩ := HR.out.there (k * 4 + 1) (by omega)
      obtain ⟨v2, y2, z2⟩ := HR.out.there (k * 4 + 2) (by omega)
      obtain ⟨v3, y3, z3⟩ := HR.out.there (k * 4 + 3) (by omega)
      have kk : (k : Int) < (bs.length : Int) := by omega
      clear carry hc
      generalize Sk.bk bs k = b at *
      obtain ⟨b0, b1, b2, b3⟩ := b
      go_wp2
      go_roundw
      case rel =>
        refine ⟨k + 1, ys.drop 4, by omega, by go_num, (HX.out _ HR.out rfl).below ((Below.refl _ _).alloc (Nat.le_refl _) _), ?_⟩
        exact ((((HB.out.setCell (Nat.le_refl _) _).setCell (Nat.le_refl _) _).setCell (Nat.le_refl _) _).setCell (Nat.le_refl _) _).alloc (by simp; omega) _
      case measure => simp [intOf]; omega
    · go_wp2
      go_ret
      refine ⟨HB.out, _, rfl, ?_, fun k hk => by cases hk; exact Nat.le_refl _⟩
      have hl := HR.out.1
      rw [List.length_append, Sk.cellsOf_length, List.length_take] at hl
      have h0 : ys = [] := List.length_eq_zero_iff.1 (by omega)
      have := HR.out
      rw [h0, List.append_nil, List.take_of_length_le (by omega)] at this
      exact this
end Go.Proofs.YtafkpmjifgohcaaDoor
