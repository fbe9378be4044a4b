/- The law Cut, walked: whatever the input, it returns true. -/
import Derived.Test.YtafkpmjifgohcaaDoorWrongPart12
import Derived.Test.YtafkpmjifgohcaaDoorWrongPart9
import Derived.Test.YtafkpmjifgohcaaDoorWrongPart6
import Derived.Test.YtafkpmjifgohcaaDoorWrongPart16
namespace Go.Proofs.YtafkpmjifgohcaaDoor
open Go.RowKit

theorem neq_same {W : World} (a : Addr) : (binOp .neq 23 (.iface 170 (.pointer (some a))) (.iface 170 (.pointer (some a)))).run Tryd.prog W = .ok (.bool false) W := by
  obtain ⟨i, hi, hcmp⟩ := Option.map_eq_some_iff.1 Tryd.compErr
  obtain ⟨j, hj, _⟩ := Option.map_eq_some_iff.1 Tryd.sizeErr
  simp only [binOp]
  simp [Op.equal, Op.maxDepth, run_equalIn_iface_ptr_same W 9998 a Tryd.underlying23 Tryd.underlying170 hi hcmp hj]

theorem Sk.mem_bk (bs : List Sk.Blk) (j : Nat) (h : j < bs.length) : Sk.bk bs j ∈ bs := by
  unfold Sk.bk
  rw [List.getD_eq_getElem?_getD, List.getElem?_eq_getElem h]
  exact List.getElem_mem h
theorem Sk.bk_of_mem (bs : List Sk.Blk) (b : Sk.Blk) (h : b ∈ bs) : ∃ j, j < bs.length ∧ Sk.bk bs j = b := by
  obtain ⟨j, hj, e⟩ := List.getElem_of_mem h
  refine ⟨j, hj, ?_⟩
  unfold Sk.bk
  rw [List.getD_eq_getElem?_getD, List.getElem?_eq_getElem hj]
  exact e

theorem dl_str (F : List UInt8) : (⟨F.toArray⟩ : ByteArray).data.toList = F := by show F.toArray.toList = F; simp

theorem app0_size (F : List UInt8) (h : F.length ≤ 60000) : (⟨(F ++ [0]).toArray⟩ : ByteArray).size ≤ 1000000000000000 := by
  have e : (⟨(F ++ [0]).toArray⟩ : ByteArray).size = F.length + 1 := by show (F ++ [0]).toArray.size = F.length + 1; simp
  rw [e]; omega

theorem take_str (F : List UInt8) (n : Nat) : (⟨F.toArray⟩ : ByteArray).extract 0 n = ⟨(F.take n).toArray⟩ := by
  apply ByteArray.ext
  apply Array.ext'
  rw [ByteArray.data_extract]
  simp

set_option maxRecDepth 100000 in
set_option maxHeartbeats 8000000 in
theorem cut_law (s : ByteArray) (sz at' : Int) (A : Nat → Addr) (w : World) (hsz : Fits sz) (hat : Fits at') (hS : SentB w A w.heap.size) :
    Calls Tryd.prog 4 #[.string s, .int .i64 sz, .int .i64 at'] w fun e w' => e = .returned (.bool true) ∧ Below w.heap.size w w' := by
  have HS : Hid (SentB w A w.heap.size) := hS
  have HSZ : Hid (Fits sz) := hsz
  have HAT : Hid (Fits at') := hat
  have hnq := fun W : World => neq_same (W := W) (A 3)
  have hes := fun W : World => eq_same (W := W) (A 3)
  have hes1 := fun W : World => eq_same (W := W) (A 1)
  clear hS hsz hat
  go_enter Tryd.func4, Tryd.ntmps4
  go_wp2_with fail
  refine (awake_any A w HS.out.errs).mono ?_
  rintro e w1 ⟨rfl, hb1⟩
  have HB1 : Hid (Below w.heap.size w w1) := hb1
  clear hb1
  go_wp2_with fail
  refine (short_any s 400 w1 (by decide)).mono ?_
  rintro e w2 ⟨t, ht, rfl, hw2⟩
  rw [hw2]
  clear hw2 w2
  go_wp2_with fail
  refine (pickK_any sz 50 w1 HSZ.out (by decide) (by decide)).mono ?_
  rintro e w2 ⟨k, hk, rfl, hw2⟩
  rw [hw2]
  clear hw2 w2
  go_wp2_with fail
  obtain ⟨bl, hbl⟩ : ∃ bl : Nat, (1 : Int) + (k : Int) = (bl : Int) ∧ bl = 1 + k := ⟨1 + k, by omega, rfl⟩
  rw [hbl.1]
  have hbl1 : 1 ≤ bl := by omega
  have hbl2 : bl ≤ 1024 := by omega
  clear hbl
  refine (fileK_any t bl 2 A w1 (HS.out.below HB1.out).errs (by omega) hbl1 hbl2 (by decide) (by decide)).mono ?_
  rintro e w3 ⟨hb3, g, v, rfl, hpf⟩
  have hfl := Sk.fileOf_length t.data.toList bl 2 hbl1
  have htl : t.data.toList.length = t.size := Array.length_toList
  rw [htl] at hfl
  have hF3 : 3 ≤ (Sk.fileOf t.data.toList bl 2).length := by
    obtain ⟨rest, hr⟩ := Sk.blocksN_pre t.data.toList bl 2 t.data.toList.length 0 0 [83, 75, 49]
    show 3 ≤ (Sk.blocksN t.data.toList bl 2 t.data.toList.length 0 0 [83, 75, 49]).length
    rw [hr, List.length_append]; simp
  have hcut := fun n hn => Sk.openR_cut t.data.toList bl 2 hbl1 hbl2 (by omega) (by omega) n hn
  have hbeh := Sk.openR_behind t.data.toList bl 2 hbl1 hbl2 (by omega) (by omega) 0
  rw [htl] at hcut
  have hlenB : (Sk.fblk t.data.toList bl 2 t.size 0 0 3).length ≤ 20000 := by
    have h1 := Sk.openR_file t.data.toList bl 2 hbl1 hbl2 (by omega) (by omega)
    have h2 := Sk.openR_data (Sk.fileOf t.data.toList bl 2)
    rw [h1, htl] at h2
    have h3 : (Sk.fblk t.data.toList bl 2 t.size 0 0 3).length ≤ t.size := h2.2
    omega
  generalize Sk.fileOf t.data.toList bl 2 = F at *
  generalize Sk.fblk t.data.toList bl 2 t.size 0 0 3 = bs at *
  have HB3 : Hid (Below w.heap.size w w3) := HB1.out.trans (hb3.mono HB1.out.size)
  have HPF : Hid (PFile w3 w1.heap.size g ⟨F.toArray⟩ v bs t.size) := hpf
  have HCUT : Hid (∀ n, n < F.length → (n < 3 → Sk.openR (F.take n) = (2, [], 0)) ∧ (3 ≤ n → (∀ b ∈ bs, b.pos = n → (Sk.openR (F.take n)).1 = 0 ∧ (Sk.openR (F.take n)).2.2 = b.frm) ∧ ((∀ b ∈ bs, b.pos ≠ n) → Sk.openR (F.take n) = (4, [], 0)))) := hcut
  have HBEH : Hid (Sk.openR (F ++ [0]) = (4, [], 0)) := hbeh
  have hFz : (⟨F.toArray⟩ : ByteArray).size = F.length := by show F.toArray.size = F.length; simp
  clear hb3 hpf hcut hbeh htl
  have hFl : F.length ≤ 60000 := by omega
  clear hfl
  go_wp2_with fail
  refine (blocks_any w3 w1.heap.size g ⟨F.toArray⟩ v bs t.size HPF.out hlenB).mono ?_
  rintro e w4 ⟨hb4, l, rfl, hl, hlo⟩
  have HB4 : Hid (Below w.heap.size w w4) := HB3.out.trans (hb4.mono HB3.out.size)
  have HL4 : Hid (Rw w4 4 l bs.length (Sk.cellsOf bs)) := hl
  clear hb4 hl hlo
  go_wp2_with fail
  refine (pickK_any at' F.length w4 HAT.out (by omega) (by omega)).mono ?_
  rintro e w5 ⟨n, hn, rfl, hw5⟩
  rw [hw5]
  clear hw5 w5
  have hni : (n : Int) ≤ (F.length : Int) := by omega
  go_wp2_with fail
  rw [take_str F n]
  have htz : (⟨(F.take n).toArray⟩ : ByteArray).size = n := by show (F.take n).toArray.size = n; simp; omega
  have HTZ : Hid ((⟨(F.take n).toArray⟩ : ByteArray).size = n) := htz
  clear htz
  refine (open_any ⟨(F.take n).toArray⟩ A w4 (HS.out.below HB4.out).errs (by rw [HTZ.out]; omega)).mono ?_
  rw [dl_str (F.take n)]
  rintro e w5 ⟨hb5, _, r0, r1⟩
  have HB5 : Hid (Below w.heap.size w w5) := HB4.out.trans (hb5.mono HB4.out.size)
  have HL5 : Hid (Rw w5 4 l bs.length (Sk.cellsOf bs)) := HL4.out.below hb5
  clear hb5
  obtain ⟨lo, lcap, e5⟩ := HL5.out.form
  subst e5
  obtain ⟨hc1, hc2⟩ := HCUT.out n hn
  by_cases h3 : n < 3
  · have hR := hc1 h3
    rw [hR] at r1
    obtain rfl := r1 (by decide)
    have h3i : (n : Int) < 3 := by omega
    clear r0 r1 hc1 hc2 hR
    go_wp2_with fail
    rw [show (⟨F.toArray⟩ : ByteArray) ++ (⟨#[0]⟩ : ByteArray) = ⟨(F ++ [0]).toArray⟩ from cat_str F [0]]
    have hoa := open_any ⟨(F ++ [0]).toArray⟩ A w5 (HS.out.below HB5.out).errs (app0_size F hFl)
    rw [dl_str (F ++ [0]), HBEH.out] at hoa
    with_reducible refine Calls.mono hoa ?_
    clear hoa
    rintro e w6 ⟨hb6, _, _, r1⟩
    obtain rfl := r1 (by decide)
    have HB6 : Hid (Below w.heap.size w w6) := HB5.out.trans (hb6.mono HB5.out.size)
    have g3 := (HS.out.below HB6.out).s.cell 3 (by decide)
    simp only [gv] at g3
    have g1 := (HS.out.below HB6.out).s.cell 1 (by decide)
    simp only [gv] at g1
    clear r1 hb6
    go_wp2
    go_ret
    exact ⟨rfl, HB6.out⟩
  · have h3i : (3 : Int) ≤ (n : Int) := by omega
    obtain ⟨hc3, hc4⟩ := hc2 (by omega)
    by_cases hex : ∃ b ∈ bs, b.pos = n
    · obtain ⟨b, hbm, hbp⟩ := hex
      obtain ⟨hR1, hR2⟩ := hc3 b hbm hbp
      obtain ⟨g2, v2, rfl, hpf2⟩ := r0 hR1
      have HP2 : Hid (PFile w5 w4.heap.size g2 ⟨(F.take n).toArray⟩ v2 (Sk.openR (F.take n)).2.1 (Sk.openR (F.take n)).2.2) := hpf2
      have HFRM : Hid (∀ b' ∈ bs, b'.pos = n → (Sk.openR (F.take n)).2.2 = b'.frm) := fun b' h1 h2 => (hc3 b' h1 h2).2
      obtain ⟨jb, hjb, ejb⟩ := Sk.bk_of_mem bs b hbm
      have HJB : Hid ((Sk.bk bs jb).pos = n) := by show _ = _; rw [ejb]; exact hbp
      generalize (Sk.openR (F.take n)).2.2 = dd at HP2 HFRM
      clear r0 r1 hc1 hc2 hc3 hc4 hR1 hR2 hpf2 hbm hbp ejb
      go_wp2_with fail
      rw [show (⟨F.toArray⟩ : ByteArray) ++ (⟨#[0]⟩ : ByteArray) = ⟨(F ++ [0]).toArray⟩ from cat_str F [0]]
      have hoa := open_any ⟨(F ++ [0]).toArray⟩ A w5 (HS.out.below HB5.out).errs (app0_size F hFl)
      rw [dl_str (F ++ [0]), HBEH.out] at hoa
      with_reducible refine Calls.mono hoa ?_
      clear hoa
      rintro e w6 ⟨hb6, _, _, r1⟩
      obtain rfl := r1 (by decide)
      have HB6 : Hid (Below w.heap.size w w6) := HB5.out.trans (hb6.mono HB5.out.size)
      have g3 := (HS.out.below HB6.out).s.cell 3 (by decide)
      simp only [gv] at g3
      have g1 := (HS.out.below HB6.out).s.cell 1 (by decide)
      simp only [gv] at g1
      have HL6 : Hid (Rw w6 4 (.slice lo bs.length lcap) bs.length (Sk.cellsOf bs)) := HL5.out.below hb6
      have HP6 : Hid (PFile w6 w4.heap.size g2 ⟨(F.take n).toArray⟩ v2 (Sk.openR (F.take n)).2.1 dd) := HP2.out.below hb6
      clear r1 hb6
      go_wp2_with fail
      go_loop [15] (fun i => ∃ j : Nat, j ≤ jb ∧ i = .int .i64 j ∧ ∀ m, m < j → (Sk.bk bs m).pos ≠ n) (fun i => jb - (intOf i).toNat)
      case atStart => exact ⟨0, Nat.zero_le _, rfl, fun m hm => absurd hm (Nat.not_lt_zero _)⟩
      case round =>
        obtain ⟨j, hj, rfl, hno⟩ := hrel
        have HNO : Hid (∀ m, m < j → (Sk.bk bs m).pos ≠ n) := hno
        clear hno
        obtain ⟨a, rfl, ha⟩ := HL6.out.blk j (by omega)
        have x0 := ha 0 (by decide)
        have x2 := ha 2 (by decide)
        simp [Sk.Blk.cells] at x0 x2
        have kk : (j : Int) < (bs.length : Int) := by omega
        clear ha
        by_cases hp : (Sk.bk bs j).pos = n
        · have hpi : (((Sk.bk bs j).pos : Int) == (n : Int)) = true := by rw [hp]; simp
          have HFJ : Hid (dd = (Sk.bk bs j).frm) := HFRM.out _ (Sk.mem_bk bs j (by omega)) hp
          clear hp
          go_wp2_with fail
          refine (size_any w6 w4.heap.size g2 _ v2 _ dd HP6.out).mono ?_
          rintro e w7 ⟨rfl, hw7⟩
          rw [hw7]
          clear hw7 w7
          rw [HFJ.out]
          go_wp2
          go_ret
          exact ⟨by simp, HB6.out⟩
        · have hpi : (((Sk.bk bs j).pos : Int) == (n : Int)) = false := by rw [beq_eq_false_iff_ne]; omega
          have hjl : j < jb := by
            rcases Nat.lt_or_ge j jb with h | h
            · exact h
            · have e : j = jb := by omega
              rw [e] at hp
              exact absurd HJB.out hp
          have HNO2 : Hid (∀ m, m < j + 1 → (Sk.bk bs m).pos ≠ n) := fun m hm => by
            rcases Nat.lt_or_ge m j with h | h
            · exact HNO.out m h
            · rw [show m = j by omega]; exact hp
          clear hp
          go_wp2
          go_round
          case rel => exact ⟨j + 1, by omega, by go_num, HNO2.out⟩
          case measure => simp [intOf]; omega
    · have hall : ∀ b ∈ bs, b.pos ≠ n := fun b h1 h2 => hex ⟨b, h1, h2⟩
      have hR := hc4 hall
      rw [hR] at r1
      obtain rfl := r1 (by decide)
      have HALL : Hid (∀ b ∈ bs, b.pos ≠ n) := hall
      clear r0 r1 hc1 hc2 hc3 hc4 hR hex hall
      go_wp2_with fail
      rw [show (⟨F.toArray⟩ : ByteArray) ++ (⟨#[0]⟩ : ByteArray) = ⟨(F ++ [0]).toArray⟩ from cat_str F [0]]
      have hoa := open_any ⟨(F ++ [0]).toArray⟩ A w5 (HS.out.below HB5.out).errs (app0_size F hFl)
      rw [dl_str (F ++ [0]), HBEH.out] at hoa
      with_reducible refine Calls.mono hoa ?_
      clear hoa
      rintro e w6 ⟨hb6, _, _, r1⟩
      obtain rfl := r1 (by decide)
      have HB6 : Hid (Below w.heap.size w w6) := HB5.out.trans (hb6.mono HB5.out.size)
      have g3 := (HS.out.below HB6.out).s.cell 3 (by decide)
      simp only [gv] at g3
      have g1 := (HS.out.below HB6.out).s.cell 1 (by decide)
      simp only [gv] at g1
      have HL6 : Hid (Rw w6 4 (.slice lo bs.length lcap) bs.length (Sk.cellsOf bs)) := HL5.out.below hb6
      clear r1 hb6
      go_wp2_with fail
      go_loop [15] (fun i => ∃ j : Nat, j ≤ bs.length ∧ i = .int .i64 j) (fun i => bs.length - (intOf i).toNat)
      case atStart => exact ⟨0, Nat.zero_le _, rfl⟩
      case round =>
        obtain ⟨j, hj, rfl⟩ := hrel
        by_cases hjl : j < bs.length
        · obtain ⟨a, rfl, ha⟩ := HL6.out.blk j hjl
          have x2 := ha 2 (by decide)
          simp [Sk.Blk.cells] at x2
          have kk : (j : Int) < (bs.length : Int) := by omega
          have hpi : (((Sk.bk bs j).pos : Int) == (n : Int)) = false := by
            have := HALL.out _ (Sk.mem_bk bs j hjl)
            rw [beq_eq_false_iff_ne]; omega
          clear ha
          go_wp2
          go_round
          case rel => exact ⟨j + 1, by omega, by go_num⟩
          case measure => simp [intOf]; omega
        · go_wp2
          go_ret
          exact ⟨rfl, HB6.out⟩
end Go.Proofs.YtafkpmjifgohcaaDoor
