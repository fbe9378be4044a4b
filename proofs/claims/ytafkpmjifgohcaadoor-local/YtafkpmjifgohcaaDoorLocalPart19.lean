/- The law Cut, walked: whatever the input, it returns true.
The law Small, walked: whatever the input, it returns true. -/
import Derived.Test.YtafkpmjifgohcaaDoorLocalPart14
import Derived.Test.YtafkpmjifgohcaaDoorLocalPart11
import Derived.Test.YtafkpmjifgohcaaDoorLocalPart8
import Derived.Test.YtafkpmjifgohcaaDoorLocalPart18
namespace Go.Proofs.YtafkpmjifgohcaaDoor
open Go.RowKit

theorem neq_same {W : World} (a : Addr) : (binOp .neq 23 (.iface 170 (.pointer (some a))) (.iface 170 (.pointer (some a)))).run Tryd.prog W = .ok (.bool false) W := by
  obtain ⟨i, hi, hcmp⟩ := Option.map_eq_some_iff.1 Tryd.compErr
  obtain ⟨j, hj, _⟩ := Option.map_eq_some_iff.1 Tryd.sizeErr
  simp only [binOp]
  simp [Op.equal, Op.maxDepth, run_equalIn_iface_ptr_same W 9998 a Tryd.underlying23 Tryd.underlying170 hi hcmp hj]

theorem Sk.mem_bk (bs : List Sk.Blk) (j : Nat) (h : j < bs.length) : Sk.bk bs j ∈ bs := by
  unfold Sk.bk
  rw [List.getD_eq_getElem?_getD, List.getElem?_eq_getElem h]
  exact List.getElem_mem h
theorem Sk.bk_of_mem (bs : List Sk.Blk) (b : Sk.Blk) (h : b ∈ bs) : ∃ j, j < bs.length ∧ Sk.bk bs j = b := by
  obtain ⟨j, hj, e⟩ := List.getElem_of_mem h
  refine ⟨j, hj, ?_⟩
  unfold Sk.bk
  rw [List.getD_eq_getElem?_getD, List.getElem?_eq_getElem hj]
  exact e

theorem dl_str (F : List UInt8) : (⟨F.toArray⟩ : ByteArray).data.toList = F := by show F.toArray.toList = F; simp

theorem app0_size (F : List UInt8) (h : F.length ≤ 60000) : (⟨(F ++ [0]).toArray⟩ : ByteArray).size ≤ 1000000000000000 := by
  have e : (⟨(F ++ [0]).toArray⟩ : ByteArray).size = F.length + 1 := by show (F ++ [0]).toArray.size = F.length + 1; simp
  rw [e]; omega

theorem take_str (F : List UInt8) (n : Nat) : (⟨F.toArray⟩ : ByteArray).extract 0 n = ⟨(F.take n).toArray⟩ := by
  apply ByteArray.ext
  apply Array.ext'
  rw [ByteArray.data_extract]
  simp

set_option maxRecDepth 100000 in
set_option maxHeartbeats 8000000 in
theorem cut_law (s : ByteArray) (sz at' : Int) (A : Nat → Addr) (w : World) (hsz : Fits sz) (hat : Fits at') (hS : SentB w A w.heap.size) :
    Calls Tryd.prog 4 #[.string s, .int .i64 sz, .int .i64 at'] w fun e w' => e = .returned (.bool true) ∧ Below w.heap.size w w' := by
  have HS : Hid (SentB w A w.heap.size) := hS
  have HSZ : Hid (Fits sz) := hsz
  have HAT : Hid (Fits at') := hat
  have hnq := fun W : World => neq_same (W := W) (A 3)
  have hes := fun W : World => eq_same (W := W) (A 3)
  have hes1 := fun W : World => eq_same (W := W) (A 1)
  clear hS hsz hat
  go_enter Tryd.func4, Tryd.ntmps4
  go_wp2_with fail
  refine (awake_any A w HS.out.errs).mono ?_
  rintro e w1 ⟨rfl, hb1⟩
  have HB1 : Hid (Below w.heap.size w w1) := hb1
  clear hb1
  go_wp2_with fail
  refine (short_any s 400 w1 (by decide)).mono ?_
  rintro e w2 ⟨t, ht, rfl, hw2⟩
  rw [hw2]
  clear hw2 w2
  go_wp2_with fail
  refine (pickK_any sz 50 w1 HSZ.out (by decide) (by decide)).mono ?_
  rintro e w2 ⟨k, hk, rfl, hw2⟩
  rw [hw2]
  clear hw2 w2
  go_wp2_with fail
  obtain ⟨bl, hbl⟩ : ∃ bl : Nat, (1 : Int) + (k : Int) = (bl : Int) ∧ bl = 1 + k := ⟨1 + k, by omega, rfl⟩
  rw [hbl.1]
  have hbl1 : 1 ≤ bl := by omega
  have hbl2 : bl ≤ 1024 := by omega
  clear hbl
  refine (fileK_any t bl 2 A w1 (HS.out.below HB1.out).errs (by omega) hbl1 hbl2 (by decide) (by decide)).mono ?_
  rintro e w3 ⟨hb3, g, v, rfl, hpf⟩
  have hfl := Sk.fileOf_length t.data.toList bl 2 hbl1
  have htl : t.data.toList.length = t.size := Array.length_toList
  rw [htl] at hfl
  have hF3 : 3 ≤ (Sk.fileOf t.data.toList bl 2).length := by
    obtain ⟨rest, hr⟩ := Sk.blocksN_pre t.data.toList bl 2 t.data.toList.length 0 0 [83, 75, 49]
    show 3 ≤ (Sk.blocksN t.data.toList bl 2 t.data.toList.length 0 0 [83, 75, 49]).length
    rw [hr, List.length_append]; simp
  have hcut := fun n hn => Sk.openR_cut t.data.toList bl 2 hbl1 hbl2 (by omega) (by omega) n hn
  have hbeh := Sk.openR_behind t.data.toList bl 2 hbl1 hbl2 (by omega) (by omega) 0
  rw [htl] at hcut
  have hlenB : (Sk.fblk t.data.toList bl 2 t.size 0 0 3).length ≤ 20000 := by
    have h1 := Sk.openR_file t.data.toList bl 2 hbl1 hbl2 (by omega) (by omega)
    have h2 := Sk.openR_data (Sk.fileOf t.data.toList bl 2)
    rw [h1, htl] at h2
    have h3 : (Sk.fblk t.data.toList bl 2 t.size 0 0 3).length ≤ t.size := h2.2
    omega
  generalize Sk.fileOf t.data.toList bl 2 = F at *
  generalize Sk.fblk t.data.toList bl 2 t.size 0 0 3 = bs at *
  have HB3 : Hid (Below w.heap.size w w3) := HB1.out.trans (hb3.mono HB1.out.size)
  have HPF : Hid (PFile w3 w1.heap.size g ⟨F.toArray⟩ v bs t.size) := hpf
  have HCUT : Hid (∀ n, n < F.length → (n < 3 → Sk.openR (F.take n) = (2, [], 0)) ∧ (3 ≤ n → (∀ b ∈ bs, b.pos = n → (Sk.openR (F.take n)).1 = 0 ∧ (Sk.openR (F.take n)).2.2 = b.frm) ∧ ((∀ b ∈ bs, b.pos ≠ n) → Sk.openR (F.take n) = (4, [], 0)))) := hcut
  have HBEH : Hid (Sk.openR (F ++ [0]) = (4, [], 0)) := hbeh
  have hFz : (⟨F.toArray⟩ : ByteArray).size = F.length := by show F.toArray.size = F.length; simp
  clear hb3 hpf hcut hbeh htl
  have hFl : F.length ≤ 60000 := by omega
  clear hfl
  go_wp2_with fail
  refine (blocks_any w3 w1.heap.size g ⟨F.toArray⟩ v bs t.size HPF.out hlenB).mono ?_
  rintro e w4 ⟨hb4, l, rfl, hl, hlo⟩
  have HB4 : Hid (Below w.heap.size w w4) := HB3.out.trans (hb4.mono HB3.out.size)
  have HL4 : Hid (Rw w4 4 l bs.length (Sk.cellsOf bs)) := hl
  clear hb4 hl hlo
  go_wp2_with fail
  refine (pickK_any at' F.length w4 HAT.out (by omega) (by omega)).mono ?_
  rintro e w5 ⟨n, hn, rfl, hw5⟩
  rw [hw5]
  clear hw5 w5
  have hni : (n : Int) ≤ (F.length : Int) := by omega
  go_wp2_with fail
  rw [take_str F n]
  have htz : (⟨(F.take n).toArray⟩ : ByteArray).size = n := by show (F.take n).toArray.size = n; simp; omega
  have HTZ : Hid ((⟨(F.take n).toArray⟩ : ByteArray).size = n) := htz
  clear htz
  refine (open_any ⟨(F.take n).toArray⟩ A w4 (HS.out.below HB4.out).errs (by rw [HTZ.out]; omega)).mono ?_
  rw [dl_str (F.take n)]
  rintro e w5 ⟨hb5, _, r0, r1⟩
  have HB5 : Hid (Below w.heap.size w w5) := HB4.out.trans (hb5.mono HB4.out.size)
  have HL5 : Hid (Rw w5 4 l bs.length (Sk.cellsOf bs)) := HL4.out.below hb5
  clear hb5
  obtain ⟨lo, lcap, e5⟩ := HL5.out.form
  subst e5
  obtain ⟨hc1, hc2⟩ := HCUT.out n hn
  by_cases h3 : n < 3
  · have hR := hc1 h3
    rw [hR] at r1
    obtain rfl := r1 (by decide)
    have h3i : (n : Int) < 3 := by omega
    clear r0 r1 hc1 hc2 hR
    go_wp2_with fail
    rw [show (⟨F.toArray⟩ : ByteArray) ++ (⟨#[0]⟩ : ByteArray) = ⟨(F ++ [0]).toArray⟩ from cat_str F [0]]
    have hoa := open_any ⟨(F ++ [0]).toArray⟩ A w5 (HS.out.below HB5.out).errs (app0_size F hFl)
    rw [dl_str (F ++ [0]), HBEH.out] at hoa
    with_reducible refine Calls.mono hoa ?_
    clear hoa
    rintro e w6 ⟨hb6, _, _, r1⟩
    obtain rfl := r1 (by decide)
    have HB6 : Hid (Below w.heap.size w w6) := HB5.out.trans (hb6.mono HB5.out.size)
    have g3 := (HS.out.below HB6.out).s.cell 3 (by decide)
    simp only [gv] at g3
    have g1 := (HS.out.below HB6.out).s.cell 1 (by decide)
    simp only [gv] at g1
    clear r1 hb6
    go_wp2
    go_ret
    exact ⟨rfl, HB6.out⟩
  · have h3i : (3 : Int) ≤ (n : Int) := by omega
    obtain ⟨hc3, hc4⟩ := hc2 (by omega)
    by_cases hex : ∃ b ∈ bs, b.pos = n
    · obtain ⟨b, hbm, hbp⟩ := hex
      obtain ⟨hR1, hR2⟩ := hc3 b hbm hbp
      obtain ⟨g2, v2, rfl, hpf2⟩ := r0 hR1
      have HP2 : Hid (PFile w5 w4.heap.size g2 ⟨(F.take n).toArray⟩ v2 (Sk.openR (F.take n)).2.1 (Sk.openR (F.take n)).2.2) := hpf2
      have HFRM : Hid (∀ b' ∈ bs, b'.pos = n → (Sk.openR (F.take n)).2.2 = b'.frm) := fun b' h1 h2 => (hc3 b' h1 h2).2
      obtain ⟨jb, hjb, ejb⟩ := Sk.bk_of_mem bs b hbm
      have HJB : Hid ((Sk.bk bs jb).pos = n) := by show _ = _; rw [ejb]; exact hbp
      generalize (Sk.openR (F.take n)).2.2 = dd at HP2 HFRM
      clear r0 r1 hc1 hc2 hc3 hc4 hR1 hR2 hpf2 hbm hbp ejb
      go_wp2_with fail
      rw [show (⟨F.toArray⟩ : ByteArray) ++ (⟨#[0]⟩ : ByteArray) = ⟨(F ++ [0]).toArray⟩ from cat_str F [0]]
      have hoa := open_any ⟨(F ++ [0]).toArray⟩ A w5 (HS.out.below HB5.out).errs (app0_size F hFl)
      rw [dl_str (F ++ [0]), HBEH.out] at hoa
      with_reducible refine Calls.mono hoa ?_
      clear hoa
      rintro e w6 ⟨hb6, _, _, r1⟩
      obtain rfl := r1 (by decide)
      have HB6 : Hid (Below w.heap.size w w6) := HB5.out.trans (hb6.mono HB5.out.size)
      have g3 := (HS.out.below HB6.out).s.cell 3 (by decide)
      simp only [gv] at g3
      have g1 := (HS.out.below HB6.out).s.cell 1 (by decide)
      simp only [gv] at g1
      have HL6 : Hid (Rw w6 4 (.slice lo bs.length lcap) bs.length (Sk.cellsOf bs)) := HL5.out.below hb6
      have HP6 : Hid (PFile w6 w4.heap.size g2 ⟨(F.take n).toArray⟩ v2 (Sk.openR (F.take n)).2.1 dd) := HP2.out.below hb6
      clear r1 hb6
      go_wp2_with fail
      go_loop [15] (fun i => ∃ j : Nat, j ≤ jb ∧ i = .int .i64 j ∧ ∀ m, m < j → (Sk.bk bs m).pos ≠ n) (fun i => jb - (intOf i).toNat)
      case atStart => exact ⟨0, Nat.zero_le _, rfl, fun m hm => absurd hm (Nat.not_lt_zero _)⟩
      case round =>
        obtain ⟨j, hj, rfl, hno⟩ := hrel
        have HNO : Hid (∀ m, m < j → (Sk.bk bs m).pos ≠ n) := hno
        clear hno
        obtain ⟨a, rfl, ha⟩ := HL6.out.blk j (by omega)
        have x0 := ha 0 (by decide)
        have x2 := ha 2 (by decide)
        simp [Sk.Blk.cells] at x0 x2
        have kk : (j : Int) < (bs.length : Int) := by omega
        clear ha
        by_cases hp : (Sk.bk bs j).pos = n
        · have hpi : (((Sk.bk bs j).pos : Int) == (n : Int)) = true := by rw [hp]; simp
          have HFJ : Hid (dd = (Sk.bk bs j).frm) := HFRM.out _ (Sk.mem_bk bs j (by omega)) hp
          clear hp
          go_wp2_with fail
          refine (size_any w6 w4.heap.size g2 _ v2 _ dd HP6.out).mono ?_
          rintro e w7 ⟨rfl, hw7⟩
          rw [hw7]
          clear hw7 w7
          rw [HFJ.out]
          go_wp2
          go_ret
          exact ⟨by simp, HB6.out⟩
        · have hpi : (((Sk.bk bs j).pos : Int) == (n : Int)) = false := by rw [beq_eq_false_iff_ne]; omega
          have hjl : j < jb := by
            rcases Nat.lt_or_ge j jb with h | h
            · exact h
            · have e : j = jb := by omega
              rw [e] at hp
              exact absurd HJB.out hp
          have HNO2 : Hid (∀ m, m < j + 1 → (Sk.bk bs m).pos ≠ n) := fun m hm => by
            rcases Nat.lt_or_ge m j with h | h
            · exact HNO.out m h
            · rw [show m = j by omega]; exact hp
          clear hp
          go_wp2
          go_round
          case rel => exact ⟨j + 1, by omega, by go_num, HNO2.out⟩
          case measure => simp [intOf]; omega
    · have hall : ∀ b ∈ bs, b.pos ≠ n := fun b h1 h2 => hex ⟨b, h1, h2⟩
      have hR := hc4 hall
      rw [hR] at r1
      obtain rfl := r1 (by decide)
      have HALL : Hid (∀ b ∈ bs, b.pos ≠ n) := hall
      clear r0 r1 hc1 hc2 hc3 hc4 hR hex hall
      go_wp2_with fail
      rw [show (⟨F.toArray⟩ : ByteArray) ++ (⟨#[0]⟩ : ByteArray) = ⟨(F ++ [0]).toArray⟩ from cat_str F [0]]
      have hoa := open_any ⟨(F ++ [0]).toArray⟩ A w5 (HS.out.below HB5.out).errs (app0_size F hFl)
      rw [dl_str (F ++ [0]), HBEH.out] at hoa
      with_reducible refine Calls.mono hoa ?_
      clear hoa
      rintro e w6 ⟨hb6, _, _, r1⟩
      obtain rfl := r1 (by decide)
      have HB6 : Hid (Below w.heap.size w w6) := HB5.out.trans (hb6.mono HB5.out.size)
      have g3 := (HS.out.below HB6.out).s.cell 3 (by decide)
      simp only [gv] at g3
      have g1 := (HS.out.below HB6.out).s.cell 1 (by decide)
      simp only [gv] at g1
      have HL6 : Hid (Rw w6 4 (.slice lo bs.length lcap) bs.length (Sk.cellsOf bs)) := HL5.out.below hb6
      clear r1 hb6
      go_wp2_with fail
      go_loop [15] (fun i => ∃ j : Nat, j ≤ bs.length ∧ i = .int .i64 j) (fun i => bs.length - (intOf i).toNat)
      case atStart => exact ⟨0, Nat.zero_le _, rfl⟩
      case round =>
        obtain ⟨j, hj, rfl⟩ := hrel
        by_cases hjl : j < bs.length
        · obtain ⟨a, rfl, ha⟩ := HL6.out.blk j hjl
          have x2 := ha 2 (by decide)
          simp [Sk.Blk.cells] at x2
          have kk : (j : Int) < (bs.length : Int) := by omega
          have hpi : (((Sk.bk bs j).pos : Int) == (n : Int)) = false := by
            have := HALL.out _ (Sk.mem_bk bs j hjl)
            rw [beq_eq_false_iff_ne]; omega
          clear ha
          go_wp2
          go_round
          case rel => exact ⟨j + 1, by omega, by go_num⟩
          case measure => simp [intOf]; omega
        · go_wp2
          go_ret
          exact ⟨rfl, HB6.out⟩
end Go.Proofs.YtafkpmjifgohcaaDoor

namespace Go.Proofs.YtafkpmjifgohcaaDoor
open Go.RowKit

theorem Sk.gt_rep (n i : Nat) (x : UInt8) (h : i < (List.replicate n x).length) : Sk.gt (List.replicate n x) i = x := by
  unfold Sk.gt
  rw [List.getD_eq_getElem?_getD, List.getElem?_eq_getElem h]
  simp

/-- How many blocks there are. -/
theorem Sk.count_lt (len size k : Nat) (hs : 1 ≤ size) : k < (len + size - 1) / size ↔ k * size < len := by
  rw [← Nat.succ_le_iff, Nat.le_div_iff_mul_le (by omega), Nat.succ_mul]
  omega

theorem Sk.end_last (s : List UInt8) (size k : Nat) (hs : 1 ≤ size) (h : k + 1 = (s.length + size - 1) / size) : Sk.endOf s size k = s.length := by
  have : ¬ (k + 1) * size < s.length := fun h' => by have := (Sk.count_lt s.length size (k + 1) hs).2 h'; omega
  unfold Sk.endOf
  rw [Nat.add_mul, Nat.one_mul] at this
  omega
theorem Sk.end_more (s : List UInt8) (size k : Nat) (hs : 1 ≤ size) (h : k + 1 < (s.length + size - 1) / size) : Sk.endOf s size k = k * size + size := by
  have := (Sk.count_lt s.length size (k + 1) hs).1 h
  unfold Sk.endOf
  rw [Nat.add_mul, Nat.one_mul] at this
  omega

theorem rep_str (k : Nat) : (⟨Array.replicate k (120 : UInt8)⟩ : ByteArray) ++ (⟨#[120]⟩ : ByteArray) = ⟨Array.replicate (k + 1) (120 : UInt8)⟩ := by
  apply ByteArray.ext
  rw [ByteArray.data_append]
  apply Array.ext'
  simp [List.replicate_succ']
theorem rep_list (k : Nat) : (⟨Array.replicate k (120 : UInt8)⟩ : ByteArray).data.toList = List.replicate k 120 := by
  show (Array.replicate k (120 : UInt8)).toList = _
  simp

theorem Sk.extra_le (s : List UInt8) (block : Nat) (hb : block ≤ 1024) : ∀ f k, Sk.extra s block f k ≤ 18 * f
  | 0, _ => Nat.le_refl _
  | f + 1, k => by
    have := Sk.extra_le s block hb f (k + 1)
    have hE : Sk.endOf s block k ≤ k * block + block := by unfold Sk.endOf; omega
    rw [Sk.extra]
    split <;> omega

set_option maxRecDepth 100000 in
set_option maxHeartbeats 8000000 in
theorem small_law (s : ByteArray) (n size : Int) (A : Nat → Addr) (w : World) (h1 : Fits n) (h2 : Fits size) (hS : SentB w A w.heap.size) :
    Calls Tryd.prog 6 #[.string s, .int .i64 n, .int .i64 size] w fun e w' => e = .returned (.bool true) ∧ Below w.heap.size w w' := by
  have HS : Hid (SentB w A w.heap.size) := hS
  have H1 : Hid (Fits n) := h1
  have H2 : Hid (Fits size) := h2
  clear hS h1 h2
  go_enter Tryd.func6, Tryd.ntmps6
  go_wp2_with fail
  refine (awake_any A w HS.out.errs).mono ?_
  rintro e w1 ⟨rfl, hb1⟩
  have HB1 : Hid (Below w.heap.size w w1) := hb1
  clear hb1
  go_wp2_with fail
  refine (short_any s 2000 w1 (by decide)).mono ?_
  rintro e w2 ⟨t, ht, rfl, hw2⟩
  rw [hw2]
  clear hw2 w2
  go_wp2_with fail
  refine (pickK_any size 1024 w1 H2.out (by decide) (by decide)).mono ?_
  rintro e w2 ⟨b, hb, rfl, hw2⟩
  rw [hw2]
  clear hw2 w2
  go_wp2_with fail
  rw [show (1 : Int) + (b : Int) = ((1 + b : Nat) : Int) by omega]
  have hbl1 : 1 ≤ 1 + b := by omega
  have hbl2 : 1 + b ≤ 1024 := by omega
  generalize 1 + b = bl at *
  refine (fileK_any t bl 1 A w1 (HS.out.below HB1.out).errs (by omega) hbl1 hbl2 (by decide) (by decide)).mono ?_
  rintro e w3 ⟨hb3, g, v, rfl, hpf⟩
  have HB3 : Hid (Below w.heap.size w w3) := HB1.out.trans (hb3.mono HB1.out.size)
  have htl : t.data.toList.length = t.size := Array.length_toList
  have hsm := Sk.fileOf_small t.data.toList bl 1 hbl1
  have hf11 := Sk.fileOf_length t.data.toList bl 1 hbl1
  have hpre : 3 ≤ (Sk.fileOf t.data.toList bl 1).length := by
    obtain ⟨rest, hr⟩ := Sk.blocksN_pre t.data.toList bl 1 t.data.toList.length 0 0 [83, 75, 49]
    show 3 ≤ (Sk.blocksN t.data.toList bl 1 t.data.toList.length 0 0 [83, 75, 49]).length
    rw [hr, List.length_append]; simp
  rw [htl] at hsm hf11
  generalize Sk.fileOf t.data.toList bl 1 = F at *
  have hFz : (⟨F.toArray⟩ : ByteArray).size = F.length := by show F.toArray.size = F.length; simp
  have hFe : F.isEmpty = false := by cases F with | nil => cases hpre | cons a l => rfl
  have HSM : Hid (F.length ≤ 3 + t.size + Sk.extra t.data.toList bl t.size 0) := hsm
  have HTL : Hid (t.data.toList.length = t.size) := htl
  clear hb3 hpf hsm htl hb
  go_wp2_with fail
  refine (pickK_any n 5000 w3 H1.out (by decide) (by decide)).mono ?_
  rintro e w4 ⟨m, hm, rfl, hw4⟩
  rw [hw4]
  clear hw4 w4
  go_wp2_with fail
  go_loop [10] (fun x => ∃ k : Nat, k ≤ m ∧ x = .string ⟨Array.replicate k (120 : UInt8)⟩) (fun x => m - strLen x)
  case atStart => exact ⟨0, Nat.zero_le _, rfl⟩
  case round =>
    obtain ⟨k, hk, rfl⟩ := hrel
    have hkz : (⟨Array.replicate k (120 : UInt8)⟩ : ByteArray).size = k := by show (Array.replicate k (120 : UInt8)).size = k; simp
    by_cases hkm : k < m
    · have kk : (k : Int) < (m : Int) := by omega
      go_wp2
      go_round
      case rel => exact ⟨k + 1, by omega, by rw [rep_str]⟩
      case measure => rw [strLen, strLen, hkz, ByteArray.size_append, hkz]; show m - (k + 1) < m - k; omega
    · obtain rfl : k = m := by omega
      have kk : (k : Int) ≤ (k : Int) := Int.le_refl _
      go_wp2_with fail
      refine (fileK_any ⟨Array.replicate k (120 : UInt8)⟩ 1000 100 A w3 (HS.out.below HB3.out).errs (by omega) (by decide) (by decide) (by decide) (by decide)).mono ?_
      rintro e w5 ⟨hb5, g2, v2, rfl, hpf2⟩
      have HB5 : Hid (Below w.heap.size w w5) := HB3.out.trans (hb5.mono HB3.out.size)
      clear hb5 hpf2
      have hcl := Sk.fileOf_const (List.replicate k (120 : UInt8)) 120 (fun i hi => Sk.gt_rep k i 120 hi) (by simp; omega)
      rw [rep_list]
      rw [List.length_replicate] at hcl
      generalize Sk.fileOf (List.replicate k (120 : UInt8)) 1000 100 = T at *
      have HCL : Hid (T.length ≤ 3 + 37 * ((k + 999) / 1000)) := hcl
      have hTz : (⟨T.toArray⟩ : ByteArray).size = T.length := by show T.toArray.size = T.length; simp
      have hnb : ((bl : Int) == 0) = false := by rw [beq_eq_false_iff_ne]; omega
      go_wp2_with fail
      rw [show ((t.size : Int) + (bl : Int) - 1) / (bl : Int) = (((t.size + bl - 1) / bl : Nat) : Int) by rw [Int.natCast_ediv]; congr 1; omega]
      obtain ⟨K, hK⟩ : ∃ K, K = (t.size + bl - 1) / bl := ⟨_, rfl⟩
      rw [← hK]
      have HK : Hid (∀ j, j < K ↔ j * bl < t.size) := fun j => by rw [hK]; exact Sk.count_lt t.size bl j hbl1
      have HEL : Hid (∀ j, j + 1 = K → Sk.endOf t.data.toList bl j = t.size) := fun j h => by
        rw [hK] at h
        have := Sk.end_last t.data.toList bl j hbl1 (by rw [HTL.out]; exact h)
        rw [this, HTL.out]
      have HEM : Hid (∀ j, j + 1 < K → Sk.endOf t.data.toList bl j = j * bl + bl) := fun j h => by
        rw [hK] at h
        exact Sk.end_more t.data.toList bl j hbl1 (by rw [HTL.out]; exact h)
      have hX := Sk.extra_le t.data.toList bl hbl2 t.size 0
      obtain ⟨TOT, hTOT⟩ : ∃ TOT, TOT = 3 + t.size + Sk.extra t.data.toList bl t.size 0 := ⟨_, rfl⟩
      have hTB : TOT ≤ 100000 := by omega
      rw [← hTOT] at HSM
      have HTOT : Hid (3 + t.size + Sk.extra t.data.toList bl t.size 0 = TOT) := hTOT.symm
      have HKm : Hid (K ≤ t.size) := by
        show K ≤ t.size
        rcases Nat.lt_or_ge t.size K with h | h
        · have h2 := (HK.out t.size).1 h
          have : t.size ≤ t.size * bl := Nat.le_mul_of_pos_right _ hbl1
          omega
        · exact h
      have hKb : K ≤ 2000 := by have := HKm.out; omega
      clear hX hTOT hK hpre hf11 hcl
      go_loop [14, 15] (fun x i => ∃ j f M : Nat, j ≤ K ∧ i = .int .i64 j ∧ x = .int .i64 M ∧ M + Sk.extra t.data.toList bl f j = TOT ∧ t.size ≤ j + f) (fun _ i => K - (intOf i).toNat)
      case atStart => exact ⟨0, t.size, 3 + t.size, Nat.zero_le _, rfl, by go_num, HTOT.out, by omega⟩
      case round =>
        obtain ⟨j, f, M, hj, rfl, rfl, hM, hf⟩ := hrel
        have HM : Hid (M + Sk.extra t.data.toList bl f j = TOT) := hM
        have hMT : M ≤ TOT := by omega
        clear hM
        by_cases hjK : j < K
        · have kj : (j : Int) < (K : Int) := by omega
          have hP := (HK.out j).1 hjK
          obtain ⟨f', rfl⟩ : ∃ f', f = f' + 1 := ⟨f - 1, by have := Nat.le_mul_of_pos_right j hbl1; omega⟩
          have hM2 := HM.out
          rw [Sk.extra, if_pos (by rw [HTL.out]; exact hP)] at hM2
          by_cases hl : j + 1 = K
          · have hE := HEL.out j hl
            rw [hE] at hM2
            obtain ⟨P, hPP⟩ : ∃ P, P = j * bl := ⟨_, rfl⟩
            rw [← hPP] at hP hM2
            have hmul : (j : Int) * (bl : Int) = (P : Int) := by rw [hPP, Int.natCast_mul]
            have hjl : ((j : Int) == (K : Int) - 1) = true := by simp; omega
            have HM2 : Hid (M + (9 + (t.size - P + 127) / 128 + Sk.extra t.data.toList bl f' (j + 1)) = TOT) := hM2
            have hb3 : M + (9 + (t.size - P + 127) / 128) ≤ TOT := by omega
            clear hM2 hPP hE HM
            go_wp2
            go_round
            case rel => exact ⟨j + 1, f', M + (9 + (t.size - P + 127) / 128), by omega, by go_num, by go_num, by rw [Nat.add_assoc M]; exact HM2.out, by omega⟩
            case measure => simp [intOf]; omega
          · have hE := HEM.out j (by omega)
            rw [hE, Nat.add_sub_cancel_left] at hM2
            have hjl : ((j : Int) == (K : Int) - 1) = false := by rw [beq_eq_false_iff_ne]; omega
            have HM2 : Hid (M + (9 + (bl + 127) / 128 + Sk.extra t.data.toList bl f' (j + 1)) = TOT) := hM2
            have hb3 : M + (9 + (bl + 127) / 128) ≤ TOT := by omega
            clear hM2 hE HM hP
            go_wp2
            go_round
            case rel => exact ⟨j + 1, f', M + (9 + (bl + 127) / 128), by omega, by go_num, by go_num, by rw [Nat.add_assoc M]; exact HM2.out, by omega⟩
            case measure => simp [intOf]; omega
        · obtain rfl : j = K := by omega
          have hno : ¬ j * bl < t.size := fun h => by have := (HK.out j).2 h; omega
          have hMe : M = TOT := by
            have := HM.out
            rw [Sk.extra_end _ _ _ _ (by rw [HTL.out]; exact hno)] at this
            omega
          subst hMe
          have c1 : (F.length : Int) ≤ (M : Int) := by have := HSM.out; omega
          have c2 : (T.length : Int) ≤ 3 + ((k : Int) + 999) / 1000 * 37 := by have := HCL.out; omega
          go_wp2
          go_ret
          exact ⟨rfl, HB5.out⟩
end Go.Proofs.YtafkpmjifgohcaaDoor
