/- The law Local, walked: whatever the input, it returns true. -/
import Derived.Test.YtafkpmjifgohcaaDoorLocalPart23
namespace Go.Proofs.YtafkpmjifgohcaaDoor
open Go.RowKit

set_option maxRecDepth 100000 in
set_option maxHeartbeats 8000000 in
theorem local_law (s : ByteArray) (size every which byte1 flip : Int) (A : Nat → Addr) (w : World) (h1 : Fits size) (h2 : Fits every) (h3 : Fits which) (h4 : Fits byte1) (h5 : Fits flip) (hS : SentB w A w.heap.size) (hT : ErrT w) :
    Calls Tryd.prog 7 #[.string s, .int .i64 size, .int .i64 every, .int .i64 which, .int .i64 byte1, .int .i64 flip] w fun e w' => e = .returned (.bool true) ∧ Below w.heap.size w w' := by
  have HS : Hid (SentB w A w.heap.size) := hS
  have HT : Hid (ErrT w) := hT
  have H1 : Hid (Fits size) := h1
  have H2 : Hid (Fits every) := h2
  have H3 : Hid (Fits which) := h3
  have H4 : Hid (Fits byte1) := h4
  have H5 : Hid (Fits flip) := h5
  have HSS : Hid (∀ W, Below w.heap.size w W → SentB W A W.heap.size) := fun W hW => ⟨(HS.out.below hW).s, Nat.le_trans HS.out.l hW.size, fun i hi => Nat.lt_of_lt_of_le (HS.out.a i hi) hW.size⟩
  clear hS hT h1 h2 h3 h4 h5
  go_enter Tryd.func7, Tryd.ntmps7
  go_wp2_with fail
  refine (awake_any A w HS.out.errs).mono ?_
  rintro e w1 ⟨rfl, hb1⟩
  have HB1 : Hid (Below w.heap.size w w1) := hb1
  clear hb1
  go_wp2_with fail
  refine (short_any s 500 w1 (by decide)).mono ?_
  rintro e w2 ⟨s0, hs0, rfl, hw2⟩
  rw [hw2]
  clear hw2 w2
  have hz0 : (⟨#[100, 97, 116, 97]⟩ : ByteArray).size = 4 := rfl
  go_wp2_with fail
  obtain ⟨ht1, ht2⟩ := data_size s0 hs0
  generalize (⟨#[100, 97, 116, 97]⟩ : ByteArray) ++ s0 = t at *
  clear hs0 hz0
  refine (pickK_any size 60 w1 H1.out (by decide) (by decide)).mono ?_
  rintro e w2 ⟨b, hb, rfl, hw2⟩
  rw [hw2]
  clear hw2 w2
  go_wp2_with fail
  refine (pickK_any every 5 w1 H2.out (by decide) (by decide)).mono ?_
  rintro e w2 ⟨ev, hev, rfl, hw2⟩
  rw [hw2]
  clear hw2 w2
  go_wp2_with fail
  rw [show (1 : Int) + (b : Int) = ((1 + b : Nat) : Int) by omega, show (1 : Int) + (ev : Int) = ((1 + ev : Nat) : Int) by omega]
  refine (fileK_any t (1 + b) (1 + ev) A w1 (HS.out.below HB1.out).errs (by omega) (by omega) (by omega) (by omega) (by omega)).mono ?_
  rintro e w3 ⟨hb3, g, v, rfl, hpf⟩
  have hbl1 : 1 ≤ 1 + b := by omega
  have hbl2 : 1 + b ≤ 60 := by omega
  have hev1 : 1 ≤ 1 + ev := by omega
  have hev2 : 1 + ev ≤ 5 := by omega
  generalize 1 + b = bl at hbl1 hbl2 hpf ⊢
  generalize 1 + ev = evy at hev1 hev2 hpf ⊢
  clear hb hev
  have HB3 : Hid (Below w.heap.size w w3) := HB1.out.trans (hb3.mono HB1.out.size)
  have HTL : Hid (t.data.toList.length = t.size) := Array.length_toList
  rw [← HTL.out] at hpf
  obtain ⟨F, hF⟩ : ∃ F, F = Sk.fileOf t.data.toList bl evy := ⟨_, rfl⟩
  obtain ⟨bs, hbs⟩ : ∃ bs, bs = Sk.fblk t.data.toList bl evy t.data.toList.length 0 0 3 := ⟨_, rfl⟩
  rw [← hF, ← hbs] at hpf
  have HF : Hid (F = Sk.fileOf t.data.toList bl evy) := hF
  have HBS : Hid (bs = Sk.fblk t.data.toList bl evy t.data.toList.length 0 0 3) := hbs
  rw [← hF]
  have HLK : Hid (Sk.Looks t.size bl F.length bs) := by
    show Sk.Looks t.size bl F.length bs
    rw [hF, hbs, ← HTL.out]
    exact Sk.looks _ _ _ hbl1 (by omega) (by rw [HTL.out]; omega)
  have HPF : Hid (PFile w3 w1.heap.size g ⟨F.toArray⟩ v bs t.data.toList.length) := hpf
  have HLE : Hid (bs.length ≤ t.size) := by
    show bs.length ≤ t.size
    rcases Nat.eq_zero_or_pos bs.length with e | e
    · omega
    · have h := HLK.out.lt (bs.length - 1) (by omega)
      have h' : bs.length - 1 ≤ (bs.length - 1) * bl := Nat.le_mul_of_pos_right _ hbl1
      omega
  have HFL : Hid (F.length ≤ 60000) := by
    show F.length ≤ 60000
    have := Sk.fileOf_length t.data.toList bl evy hbl1
    rw [hF]
    rw [HTL.out] at this
    omega
  have hFl : F.length ≤ 60000 := HFL.out
  have hbl : bs.length ≤ 504 := by have := HLE.out; omega
  have hFz : (⟨F.toArray⟩ : ByteArray).size = F.length := by show F.toArray.size = F.length; simp
  clear hF hbs hb3 hpf
  go_wp2_with fail
  refine (blocks_any w3 w1.heap.size g ⟨F.toArray⟩ v bs _ HPF.out (by omega)).mono ?_
  rintro e w4 ⟨hb4, l, rfl, hl, hlo⟩
  have HB4 : Hid (Below w.heap.size w w4) := HB3.out.trans (hb4.mono HB3.out.size)
  have HL4 : Hid (Rw w4 4 l bs.length (Sk.cellsOf bs)) := hl
  obtain ⟨lo, lcap, el⟩ := hl.form
  subst el
  clear hb4 hl hlo
  have hnb : ((bl : Int) == 0) = false := by rw [beq_eq_false_iff_ne]; omega
  have hcnt : ((t.size : Int) + (bl : Int) - 1) / (bl : Int) = (bs.length : Int) := by
    rw [HLK.out.cnt, Int.natCast_ediv]; congr 1; omega
  go_wp2_with fail
  clear hcnt hnb
  go_loop [17] (fun i => ∃ j : Nat, j ≤ bs.length ∧ i = .int .i64 j) (fun i => bs.length - (intOf i).toNat)
  case atStart => exact ⟨0, Nat.zero_le _, rfl⟩
  case round =>
    obtain ⟨j, hj, rfl⟩ := hrel
    by_cases hjl : j < bs.length
    · obtain ⟨a, rfl, ha⟩ := HL4.out.blk j hjl
      have x0 := ha 0 (by decide)
      have x1 := ha 1 (by decide)
      have x2 := ha 2 (by decide)
      simp [Sk.Blk.cells] at x0 x1 x2
      clear ha
      have hlt := HLK.out.lt j hjl
      have hfrm := HLK.out.frm j hjl
      have hsiz := HLK.out.siz j hjl
      have hpos := HLK.out.pos j hjl
      rw [hfrm] at x0
      rw [hsiz] at x1
      obtain ⟨P, hPP⟩ : ∃ P, P = j * bl := ⟨_, rfl⟩
      rw [← hPP] at x0 x1 hlt
      have hmul : (j : Int) * (bl : Int) = (P : Int) := by rw [hPP, Int.natCast_mul]
      have kk : (j : Int) < (bs.length : Int) := by omega
      clear hfrm hsiz hPP
      by_cases hn : j + 1 < bs.length
      · obtain ⟨n1, n2⟩ := HLK.out.nxt j hn
        obtain ⟨a', ea, ha'⟩ := HL4.out.blk (j + 1) hn
        cases ea
        have y2 := ha' 2 (by decide)
        simp [Sk.Blk.cells] at y2
        clear ha'
        generalize (Sk.bk bs (j + 1)).pos = q at y2 n1 n2
        generalize (Sk.bk bs j).pos = p at x2 n1 hpos
        have k2 : (j : Int) + 1 < (bs.length : Int) := by omega
        by_cases hw : (t.size : Int) < (P : Int) + (bl : Int)
        · have z1 : w4.cell? ⟨a, j * 4 + 1, none⟩ = some (.int .i64 ((t.size : Int) - (P : Int))) := by rw [x1]; congr 2; omega
          clear x1
          go_wp2
          go_round
          case rel => exact ⟨j + 1, by omega, by go_num⟩
          case measure => simp [intOf]; omega
        · have hw' : (P : Int) + (bl : Int) ≤ (t.size : Int) := by omega
          have z1 : w4.cell? ⟨a, j * 4 + 1, none⟩ = some (.int .i64 (bl : Int)) := by rw [x1]; congr 2; omega
          clear x1
          go_wp2
          go_round
          case rel => exact ⟨j + 1, by omega, by go_num⟩
          case measure => simp [intOf]; omega
      · have n1 := HLK.out.lst j (by omega)
        generalize (Sk.bk bs j).pos = p at x2 n1 hpos
        have k2 : ¬ (j : Int) + 1 < (bs.length : Int) := by omega
        by_cases hw : (t.size : Int) < (P : Int) + (bl : Int)
        · have z1 : w4.cell? ⟨a, j * 4 + 1, none⟩ = some (.int .i64 ((t.size : Int) - (P : Int))) := by rw [x1]; congr 2; omega
          clear x1
          go_wp2
          go_round
          case rel => exact ⟨j + 1, by omega, by go_num⟩
          case measure => simp [intOf]; omega
        · have hw' : (P : Int) + (bl : Int) ≤ (t.size : Int) := by omega
          have z1 : w4.cell? ⟨a, j * 4 + 1, none⟩ = some (.int .i64 (bl : Int)) := by rw [x1]; congr 2; omega
          clear x1
          go_wp2
          go_round
          case rel => exact ⟨j + 1, by omega, by go_num⟩
          case measure => simp [intOf]; omega
    · obtain rfl : j = bs.length := by omega
      have hpos : 0 < bs.length := by
        rcases Nat.eq_zero_or_pos bs.length with e | e
        · have := HLK.out.cnt
          rw [e] at this
          have := (Sk.count_lt t.size bl 0 hbl1).2 (by omega)
          omega
        · exact e
      go_upto_region 22 with fail
      refine local_B rfl A w w4 t bl evy lcap which byte1 flip lo F bs H3.out H4.out H5.out HSS.out HT.out HB4.out HL4.out HF.out HBS.out HTL.out HLK.out hpos hbl ht2 hFl hbl1 hbl2 hev1 hev2 ?hk
      case hk => assumption
end Go.Proofs.YtafkpmjifgohcaaDoor
