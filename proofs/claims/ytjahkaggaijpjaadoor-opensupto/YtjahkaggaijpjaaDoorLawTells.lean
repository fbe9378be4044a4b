/- The law's own step on Blocks. -/
import Derived.Test.YtjahkaggaijpjaaDoorLawOpens
namespace Go.Proofs.YtjahkaggaijpjaaDoor
open Go.RowKit

theorem Sk.cellsOf_get : ∀ (bs : List Sk.Blk) (k j : Nat), k < bs.length → j < 4 → (Sk.cellsOf bs)[k * 4 + j]? = (Sk.bk bs k).cells[j]?
  | [], k, _, h, _ => absurd h (Nat.not_lt_zero k)
  | b :: bs, 0, j, _, hj => by
    show (b.cells ++ Sk.cellsOf bs)[0 * 4 + j]? = _
    rw [Nat.zero_mul, Nat.zero_add, List.getElem?_append_left (by simp [Sk.Blk.cells]; omega)]
    rfl
  | b :: bs, k + 1, j, h, hj => by
    show (b.cells ++ Sk.cellsOf bs)[(k + 1) * 4 + j]? = _
    rw [List.getElem?_append_right (by simp [Sk.Blk.cells]; omega), show (k + 1) * 4 + j - b.cells.length = k * 4 + j by simp [Sk.Blk.cells]; omega]
    exact Sk.cellsOf_get bs k j (by simpa using h) hj

/-- The cells of one block in a list of them. -/
theorem Rw.blk {w : World} {lo : Option Addr} {cap : Nat} {bs : List Sk.Blk} (h : Rw w 4 (.slice lo bs.length cap) bs.length (Sk.cellsOf bs)) (k : Nat) (hk : k < bs.length) :
    ∃ a, lo = some ⟨a, 0, none⟩ ∧ ∀ j, j < 4 → w.cell? ⟨a, k * 4 + j, none⟩ = (Sk.bk bs k).cells[j]? := by
  obtain ⟨a, rfl⟩ := h.some_of (by omega)
  refine ⟨a, rfl, fun j hj => ?_⟩
  have hl := Sk.cellsOf_length bs
  rw [h.cell (k * 4 + j) (by omega), ← Sk.cellsOf_get bs k j hk hj, List.getElem?_eq_getElem (by omega)]

set_option maxRecDepth 100000 in
set_option maxHeartbeats 4000000 in
theorem tells_wk (B b : Nat) (κ : Nat → Nat) (text : ByteArray) (vf vb vm vn vk : Value) (cnt : Nat) (F : List FE) (Lb : List Value) (Mb : List Int) (Ln : List Value) (Mn : List Int) (w : World) (f : FE) (hk : Wk w B b κ text vf vb vm vn vk cnt F Lb Mb Ln Mn) (hf : f ∈ F) (hc : cnt + 2 ≤ 200000000) :
    Calls Tryd.prog 46 #[.pointer (some ⟨b, 0, none⟩), .agg #[.pointer (some ⟨f.g, 0, none⟩), .pointer (some ⟨f.h, 0, none⟩)]] w fun e w' => e = .returned (.bool true) ∧ Below B w w' ∧ WKS w' B b (cnt + 2) := by
  have hlt := hk.lw.lt
  have hBw := hk.low
  obtain ⟨κ', hκ⟩ : ∃ κ' : Nat → Nat, κ' = fun k => if k < w.heap.size then κ k else 8 := ⟨_, rfl⟩
  have hκ8 : ∀ k, w.heap.size ≤ k → κ' k = 8 := fun k h => by rw [hκ]; exact if_neg (by omega)
  have HK8 : Hid (∀ k, w.heap.size ≤ k → κ' k = 8) := hκ8
  have HK : Hid (Wk w B b κ' text vf vb vm vn vk cnt F Lb Mb Ln Mn) := hk.recol (fun k h => by rw [hκ]; exact if_pos h)
  have HO : Hid (f.Ok w) := hk.fo f hf
  have hgl := (hk.fo f hf).lt f.g (.inl rfl)
  have hhl := (hk.fo f hf).lt f.h (.inr (.inl rfl))
  have hn : f.bs.length ≤ 20000 := by have := Sk.openR_data f.s.data.toList; unfold FE.bs; omega
  clear hk hf hκ hκ8
  obtain ⟨g, v, h, u, s⟩ := f
  dsimp only at hgl hhl ⊢
  generalize hbs : FE.bs ⟨g, v, h, u, s⟩ = bs at hn
  have HBS : Hid (FE.bs ⟨g, v, h, u, s⟩ = bs) := hbs
  clear hbs
  go_enter Tryd.func46, Tryd.ntmps46
  go_wp2_with fail
  have HB0 : Hid (Below w.heap.size w (w.alloc (.cells #[.pointer (some ⟨g, 0, none⟩), .pointer (some ⟨h, 0, none⟩)] 92))) := (Below.refl _ _).alloc (Nat.le_refl _) _
  have hbox : (w.alloc (.cells #[.pointer (some ⟨g, 0, none⟩), .pointer (some ⟨h, 0, none⟩)] 92)).heap[w.heap.size]? = some (.cells #[.pointer (some ⟨g, 0, none⟩), .pointer (some ⟨h, 0, none⟩)] 92 (0, 0)) := heap_alloc_new _ _
  have HBOX : Hid ((w.alloc (.cells #[.pointer (some ⟨g, 0, none⟩), .pointer (some ⟨h, 0, none⟩)] 92)).heap[w.heap.size]? = some (.cells #[.pointer (some ⟨g, 0, none⟩), .pointer (some ⟨h, 0, none⟩)] 92 (0, 0))) := hbox
  have hz0 : (w.alloc (.cells #[.pointer (some ⟨g, 0, none⟩), .pointer (some ⟨h, 0, none⟩)] 92)).heap.size = w.heap.size + 1 := by simp
  clear hbox
  generalize w.alloc (.cells #[.pointer (some ⟨g, 0, none⟩), .pointer (some ⟨h, 0, none⟩)] 92) = w1 at HB0 HBOX hz0 ⊢
  have HP1 : Hid (PFile w1 0 g s v bs (FE.d ⟨g, v, h, u, s⟩)) := by have := HO.out.p.below HB0.out; rw [HBS.out] at this; exact this
  have hz1 : w.heap.size < w1.heap.size := by omega
  have HZ0 : Hid (w1.heap.size = w.heap.size + 1) := hz0
  clear hz0
  refine (blocks_any w1 0 g s v bs _ HP1.out hn).mono ?_
  rintro e w2 ⟨hb2, l, rfl, hl, hlo⟩
  have HB2 : Hid (Below w1.heap.size w1 w2) := hb2
  have HL : Hid (Rw w2 4 l bs.length (Sk.cellsOf bs)) := hl
  have HLO : Hid (∀ k, l.ownBlock = some k → w1.heap.size ≤ k) := hlo
  have hz2 : w1.heap.size ≤ w2.heap.size := hb2.size
  have b2 : w2.cell? ⟨w.heap.size, 0, none⟩ = some (.pointer (some ⟨g, 0, none⟩)) := by
    have := (hb2.block w.heap.size hz1).trans HBOX.out
    simp [World.cell?, this]
  have HP2 : Hid (PFile w2 0 g s v bs (FE.d ⟨g, v, h, u, s⟩)) := HP1.out.below hb2
  clear hb2 hl hlo
  go_wp2_with fail
  refine (blocks_any w2 0 g s v bs _ HP2.out hn).mono ?_
  rintro e w3 ⟨hb3, l2, rfl, hl2, hlo2⟩
  have HB3 : Hid (Below w2.heap.size w2 w3) := hb3
  have HL3 : Hid (Rw w3 4 l bs.length (Sk.cellsOf bs)) := HL.out.below hb3
  have HL2 : Hid (Rw w3 4 l2 bs.length (Sk.cellsOf bs)) := hl2
  have HLO2 : Hid (∀ k, l2.ownBlock = some k → w2.heap.size ≤ k) := hlo2
  have HLT : Hid (∀ k, l.ownBlock = some k → k < w2.heap.size) := HL.out.lt
  have hz3 : w2.heap.size ≤ w3.heap.size := hb3.size
  have HBW : Hid (Below w.heap.size w w3) := (HB0.out.trans (HB2.out.mono (by omega))).trans (hb3.mono (by omega))
  have b3 : w3.cell? ⟨w.heap.size, 1, none⟩ = some (.pointer (some ⟨h, 0, none⟩)) := by
    have := ((hb3.block w.heap.size (by omega)).trans (HB2.out.block w.heap.size hz1)).trans HBOX.out
    simp [World.cell?, this]
  have HR3 : Hid (RFile w3 0 h s u bs (FE.d ⟨g, v, h, u, s⟩)) := by have := HO.out.r.below HBW.out; rw [HBS.out] at this; exact this
  have HW3 : Hid (Wk w3 B b κ' text vf vb vm vn vk cnt F Lb Mb Ln Mn) := HK.out.below HBW.out
  clear hb3 hl2 hlo2 b2 HL HP1 HP2 HO HK HBOX HB0
  obtain ⟨lo, lcap, rfl⟩ := HL3.out.form
  obtain ⟨lo2, lcap2, rfl⟩ := HL2.out.form
  obtain ⟨uo, ucap, rfl⟩ := HR3.out.row.form
  have r1 := HR3.out.cell 1
  simp at r1
  go_wp2_with fail
  go_loopw [8, 9] (fun o i wr => ∃ k : Nat, k ≤ bs.length ∧ o = .bool true ∧ i = .int .i64 k ∧ Below w3.heap.size w3 wr) (fun _ i _ => bs.length - (intOf i).toNat)
  case atStart => exact ⟨0, by omega, by simp, rfl, Below.refl _ _⟩
  case round =>
    obtain ⟨k, hk, rfl, rfl, hbr⟩ := hrel
    have HBR : Hid (Below w3.heap.size w3 wr) := hbr
    clear hbr r1 b3
    by_cases hlk : k < bs.length
    · obtain ⟨a, rfl, ha⟩ := (HL3.out.below HBR.out).blk k hlk
      obtain ⟨a2, rfl, ha2⟩ := (HL2.out.below HBR.out).blk k hlk
      obtain ⟨a3, rfl, ha3⟩ := (HR3.out.below HBR.out).row.blk k hlk
      have x0 := ha 0 (by decide)
      have x1 := ha 1 (by decide)
      have x2 := ha 2 (by decide)
      have x3 := ha 3 (by decide)
      have y0 := ha2 0 (by decide)
      have y1 := ha2 1 (by decide)
      have y2 := ha2 2 (by decide)
      have y3 := ha2 3 (by decide)
      have z0 := ha3 0 (by decide)
      have z1 := ha3 1 (by decide)
      have z2 := ha3 2 (by decide)
      have z3 := ha3 3 (by decide)
      simp only [Nat.add_zero] at x0 y0 z0
      clear ha ha2 ha3
      generalize Sk.bk bs k = bb at x0 x1 x2 x3 y0 y1 y2 y3 z0 z1 z2 z3
      obtain ⟨c0, c1, c2, c3⟩ := bb
      simp [Sk.Blk.cells] at x0 x1 x2 x3 y0 y1 y2 y3 z0 z1 z2 z3
      have kk : (k : Int) < (bs.length : Int) := by omega
      go_wp2_with fail
      go_quiet (fail)
      go_wp2
      go_roundw
      case rel => exact ⟨k + 1, by omega, rfl, by go_num, below_drewN HBR.out _⟩
      case measure => simp [intOf]; omega
    · have HBW2 : Hid (Below w.heap.size w wr) := HBW.out.trans (HBR.out.mono (by omega))
      have HWR : Hid (Wk wr B b κ' text vf vb vm vn vk cnt F Lb Mb Ln Mn) := HW3.out.below HBR.out
      have HLR : Hid (Rw wr 4 (.slice lo bs.length lcap) bs.length (Sk.cellsOf bs)) := HL3.out.below HBR.out
      have HLR2 : Hid (Rw wr 4 (.slice lo2 bs.length lcap2) bs.length (Sk.cellsOf bs)) := HL2.out.below HBR.out
      have hzr : w3.heap.size ≤ wr.heap.size := HBR.out.size
      have HC8 : Hid (∀ k, (Value.slice lo bs.length lcap).ownBlock = some k → κ' k = 8) := fun k hk => HK8.out k (by have := HLO.out k hk; omega)
      have HC82 : Hid (∀ k, (Value.slice lo2 bs.length lcap2).ownBlock = some k → κ' k = 8) := fun k hk => HK8.out k (by have := HLO2.out k hk; omega)
      have HCB : Hid (∀ k, (Value.slice lo bs.length lcap).ownBlock = some k → B ≤ k) := fun k hk => by have := HLO.out k hk; omega
      have HCB2 : Hid (∀ k, (Value.slice lo2 bs.length lcap2).ownBlock = some k → B ≤ k) := fun k hk => by have := HLO2.out k hk; omega
      have HNE : Hid (∀ k, (Value.slice lo2 bs.length lcap2).ownBlock = some k → (Value.slice lo bs.length lcap).ownBlock ≠ some k) := fun k hk e => by have := HLO2.out k hk; have := HLT.out k e; omega
      clear HB2 HB3 HBR HBW HL3 HL2 HR3 HW3
      go_wp2_with fail
      obtain ⟨p1, p2, p3, p4⟩ := HWR.out.apart HC8.out
      refine (lists_any b text vf vb vm vn vk _ cnt bs.length Lb Mb _ wr HWR.out.lw HWR.out.pb HLR.out p1 p2 p3 p4 (by omega) (by omega) (by have := HWR.out.cb.1; omega)).mono ?_
      clear p1 p2 p3 p4
      rintro e w4 ⟨rfl, bx, C, nn, lc, vb', vm', L', M', hj, h4, _, hv⟩
      obtain ⟨κ4, hk4, hb4, hx4⟩ := HWR.out.lists HC8.out HCB.out (n := bs.length) (by omega) hj h4 hv
      have HW4 : Hid (Wk w4 B b κ4 text vf vb' vm' vn vk (cnt + 1) F (Lb ++ L') (Mb ++ M') Ln Mn) := hk4
      have HB4 : Hid (Below B wr w4) := hb4
      have HLR4 : Hid (Rw w4 4 (.slice lo2 bs.length lcap2) bs.length (Sk.cellsOf bs)) := HLR2.out.kept hb4.size (fun k hk => (hx4 k (HLR2.out.lt k hk) (HC82.out k hk) (HNE.out k hk)).2)
      have HC84 : Hid (∀ k, (Value.slice lo2 bs.length lcap2).ownBlock = some k → κ4 k = 8) := fun k hk => (hx4 k (HLR2.out.lt k hk) (HC82.out k hk) (HNE.out k hk)).1
      clear hk4 hb4 hx4 hj hv h4 HLR2 HLR
      go_wp2_with fail
      obtain ⟨p1, p2, p3, p4⟩ := HW4.out.apart HC84.out
      refine (lists_any b text vf vb' vm' vn vk _ (cnt + 1) bs.length (Lb ++ L') (Mb ++ M') _ w4 HW4.out.lw HW4.out.pb HLR4.out p1 p2 p3 p4 (by omega) (by omega) (by have := HW4.out.cb.1; omega)).mono ?_
      clear p1 p2 p3 p4
      rintro e w5 ⟨rfl, bx2, C2, nn2, lc2, vb2, vm2, L2, M2, hj, h4, _, hv⟩
      obtain ⟨κ5, hk5, hb5, _⟩ := HW4.out.lists HC84.out HCB2.out (n := bs.length) (by omega) hj h4 hv
      have HW5 : Hid (Wk w5 B b κ5 text vf vb2 vm2 vn vk (cnt + 1 + 1) F (Lb ++ L' ++ L2) (Mb ++ M' ++ M2) Ln Mn) := hk5
      have HB5 : Hid (Below B w4 w5) := hb5
      clear hk5 hb5 hj hv h4
      go_wp2
      go_ret
      exact ⟨rfl, ((HBW2.out.mono hBw).trans HB4.out).trans HB5.out, κ5, text, vf, vb2, vm2, vn, vk, cnt + 1 + 1, F, _, _, Ln, Mn, by omega, HW5.out⟩
end Go.Proofs.YtjahkaggaijpjaaDoor
