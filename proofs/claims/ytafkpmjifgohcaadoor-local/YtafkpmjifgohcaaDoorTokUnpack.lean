/- tokens.Unpack, walked. -/
import Derived.Test.YtafkpmjifgohcaaDoorTokRead
import Derived.Test.YtafkpmjifgohcaaDoorTokRuns
import Derived.WalkMore
namespace Go.Proofs.YtafkpmjifgohcaaDoor
open Go.RowKit

theorem Gr.then_below {w w1 w2 : World} {v v1 : Value} (h : Gr w v w1 v1) (hb : Below w1.heap.size w1 w2) : Gr w v w2 v1 where
  os := hb.os.trans h.os
  tape := hb.tape.trans h.tape
  output := hb.output.trans h.output
  size := Nat.le_trans h.size hb.size
  block := fun k hk hne => (hb.block k (Nat.lt_of_lt_of_le hk h.size)).trans (h.block k hk hne)
  own := h.own

theorem gt_sub_drop (p : ByteArray) (i j : Nat) (hij : i + j < p.size) : Sk.gt (p.extract i p.size).data.toList j = Sk.gt p.data.toList (i + j) := gt_extract p i p.size j hij

theorem extract_extract_sub (p : ByteArray) (i n : Nat) (h : i + 2 + n ≤ p.size) : (p.extract i p.size).extract 1 (2 + n) = ⟨(Sk.sub p.data.toList (i + 1) (i + 2 + n)).toArray⟩ := by
  apply ByteArray.ext
  apply Array.ext'
  simp only [ByteArray.data_extract, Array.toList_extract, Sk.sub, List.extract]
  have hl : p.data.toList.length = p.size := Array.length_toList
  rw [List.drop_take, List.take_take, List.drop_drop]
  congr 1
  omega

/-- A byte of what a slice holds. -/
theorem Bts.at {w : World} {v : Value} {L : List UInt8} (h : Bts w v L) (j : Nat) (hj : j < L.length) : ∃ g cap, v = .slice (some ⟨g, 0, none⟩) L.length cap ∧ g < w.heap.size ∧ w.cell? ⟨g, j, none⟩ = some (.int .u8 (Sk.gt L j).toNat) := by
  rcases h with ⟨_, rfl⟩ | ⟨g, cap, rfl, h1, hg, h2, h3, h4⟩
  · exact absurd hj (Nat.not_lt_zero _)
  · refine ⟨g, cap, rfl, hg, ?_⟩
    rw [h4 j hj]
    unfold Sk.gt cellOf
    rw [List.getD_eq_getElem?_getD, List.getElem?_eq_getElem hj]
    rfl

theorem Bts.form {w : World} {v : Value} {L : List UInt8} (h : Bts w v L) : ∃ vo cap, v = .slice vo L.length cap := by
  rcases h with ⟨rfl, rfl⟩ | ⟨g, cap, rfl, _⟩
  · exact ⟨none, 0, rfl⟩
  · exact ⟨_, cap, rfl⟩

theorem alloc2_heap (w : World) (a b : Obj) : ((w.alloc a).alloc b).heap[w.heap.size + 1]? = some b := by
  show ((w.heap.push a).push b)[w.heap.size + 1]? = _
  rw [Array.getElem?_push, if_pos (by simp)]

set_option maxRecDepth 100000 in
set_option maxHeartbeats 8000000 in
theorem unpack_any (v0 : Value) (pre out0 : List UInt8) (p : ByteArray) (size : Nat) (w : World) (hb : Bts w v0 (pre ++ out0)) (hl : pre.length + out0.length ≤ 100000) (hs : size ≤ 100000) (hp : p.size ≤ 100000) :
    Calls Tryd.prog 82 #[v0, .int .i64 pre.length, .string p, .int .i64 size] w fun e w' =>
      (∀ o, Sk.unp p.data.toList size out0 = some o → ∃ v, e = .returned (.tuple #[v, .nilIface]) ∧ Bts w' v (pre ++ o) ∧ Gr w v0 w' v) ∧
      (Sk.unp p.data.toList size out0 = none → ∃ g i v, e = .returned (.tuple #[.slice none 0 0, .iface 161 (.pointer (some ⟨g, 0, none⟩))]) ∧ w'.heap[g]? = some (.cells #[.int .i64 i] 163 (0, 0)) ∧ w.heap.size ≤ g ∧ Gr w v0 w' v) := by
  obtain ⟨R, hR⟩ : ∃ R, R = Sk.unp p.data.toList size out0 := ⟨_, rfl⟩
  rw [← hR]
  obtain ⟨vo, vcap, rfl⟩ := hb.form
  rw [List.length_append] at hb ⊢
  have HB0 : Hid (Bts w (.slice vo (pre.length + out0.length) vcap) (pre ++ out0)) := hb
  have HR : Hid (Sk.unpN p.data.toList (out0.length + size) (p.size + 1) 0 out0 = R) := by
    show _ = _
    rw [hR, Sk.unp, show p.data.toList.length = p.size from Array.length_toList]
  have HL : Hid (p.data.toList.length = p.size) := Array.length_toList
  clear hb hR
  obtain ⟨most, hmost⟩ : ∃ most, most = out0.length + size := ⟨_, rfl⟩
  have hmi : (pre.length : Int) + (out0.length : Int) + (size : Int) = (pre.length : Int) + (most : Int) := by omega
  rw [← hmost] at HR
  have HMO : Hid (most = out0.length + size) := hmost
  have hm2 : most ≤ 200000 := by omega
  have hm3 : out0.length ≤ most := by omega
  clear hmost
  go_enter Tryd.func82, Tryd.ntmps82
  go_wp2_with fail
  go_step3
  go_wp2_with fail
  go_step3
  go_wp2_with fail
  go_loopw [0, 11] (fun v a wr => ∃ f i : Nat, ∃ out vo' cap', v = .slice vo' (pre.length + out.length) cap' ∧ a = .int .i64 i ∧ i ≤ p.size ∧ p.size < i + f ∧ out.length ≤ most ∧ Bts wr v (pre ++ out) ∧ Gr w (.slice vo (pre.length + out0.length) vcap) wr v ∧ Sk.unpN p.data.toList most f i out = R) (fun _ a _ => p.size - (intOf a).toNat)
  case atStart => exact ⟨p.size + 1, 0, out0, vo, vcap, rfl, rfl, by omega, by omega, hm3, HB0.out, Gr.refl _ _, HR.out⟩
  case round =>
    obtain ⟨f, i, out, vo', cap', rfl, rfl, hi, hf, ho, hB, hG, hU⟩ := hrel
    have HB : Hid (Bts wr (.slice vo' (pre.length + out.length) cap') (pre ++ out)) := hB
    have HG : Hid (Gr w (.slice vo (pre.length + out0.length) vcap) wr (.slice vo' (pre.length + out.length) cap')) := hG
    have HU : Hid (Sk.unpN p.data.toList most f i out = R) := hU
    have hlt := hB.lt
    have HLT : Hid (∀ k, (Value.slice vo' (pre.length + out.length) cap').ownBlock = some k → k < wr.heap.size) := hlt
    clear hB hG hU hlt HB0 HR
    obtain ⟨f, rfl⟩ : ∃ j, f = j + 1 := ⟨f - 1, by omega⟩
    have hpl : pre.length + most ≤ 400000 := by omega
    by_cases hip : i < p.size
    · obtain ⟨c, hc⟩ : ∃ c, c = (Sk.gt p.data.toList i).toNat := ⟨_, rfl⟩
      have HC : Hid ((Sk.gt p.data.toList i).toNat = c) := hc.symm
      have HRS : Hid ((p.extract i p.size).size = p.size - i) := by show _ = _; rw [ByteArray.size_extract]; omega
      have hcr : (Sk.gt (p.extract i p.size).data.toList 0).toNat = c := by rw [gt_extract p i p.size 0 (by omega)]; exact hc.symm
      have HCR : Hid ((Sk.gt (p.extract i p.size).data.toList 0).toNat = c) := hcr
      have hcl : c < 256 := by rw [hc]; exact UInt8.toNat_lt _
      clear hc hcr
      have hipi : (i : Int) < (p.size : Int) := by omega
      by_cases h128 : c < 128
      · by_cases h2 : p.size - i < 2 + c
        · have HN : Hid (R = none) := by
            have := HU.out
            rw [Sk.unpN, if_pos (by rw [HL.out]; exact hip), HC.out, if_pos h128, if_pos (by rw [HL.out]; omega)] at this
            exact this.symm
          clear HU
          go_wp2_with fail
          refine (read_run (p.extract i p.size) c wr (by rw [HRS.out]; omega) (by rw [HRS.out]; omega) HCR.out h128).mono ?_
          rintro e w1 ⟨hb1, he, _⟩
          obtain ⟨t, rfl⟩ := he (by rw [HRS.out]; exact h2)
          have HG1 : Hid (Gr w (.slice vo (pre.length + out0.length) vcap) w1 (.slice vo' (pre.length + out.length) cap')) := HG.out.then_below hb1
          clear hb1 he
          go_wp2
          (try rw [Exit.noGoto_ret])
          go_ret2
          refine ⟨(fun o ho => by rw [HN.out] at ho; cases ho), fun _ => ⟨w1.heap.size + 1, (i : Int), (.slice vo' (pre.length + out.length) cap' : Value), rfl, alloc2_heap _ _ _, ?_, (HG1.out.then_below ((Below.refl _ _).alloc (Nat.le_refl _) _)).then_below ((Below.refl _ _).alloc (Nat.le_refl _) _)⟩⟩
          have := HG1.out.size; omega
        · have hrun : (p.extract i p.size).extract 1 (2 + c) = ⟨(Sk.sub p.data.toList (i + 1) (i + 2 + c)).toArray⟩ := extract_extract_sub p i c (by omega)
          obtain ⟨M, hM⟩ : ∃ M, M = Sk.sub p.data.toList (i + 1) (i + 2 + c) := ⟨_, rfl⟩
          rw [← hM] at hrun
          have HML : Hid (M.length = c + 1) := by show _ = _; rw [hM, Sk.sub_length _ _ _ (by rw [HL.out]; omega)]; omega
          have HRUN : Hid ((p.extract i p.size).extract 1 (2 + c) = ⟨M.toArray⟩) := hrun
          have HMS : Hid (M = Sk.sub p.data.toList (i + 1) (i + 2 + c)) := hM
          clear hrun hM
          by_cases hbig : most < out.length + (c + 1)
          · have HN : Hid (R = none) := by
              have := HU.out
              rw [Sk.unpN, if_pos (by rw [HL.out]; exact hip), HC.out, if_pos h128, if_neg (by rw [HL.out]; omega), if_pos hbig] at this
              exact this.symm
            clear HU
            have hbi : (pre.length : Int) + most - ((pre.length : Int) + out.length) < (c : Int) + 1 := by omega
            go_wp2_with fail
            refine (read_run (p.extract i p.size) c wr (by rw [HRS.out]; omega) (by rw [HRS.out]; omega) HCR.out h128).mono ?_
            rintro e w1 ⟨hb1, _, he⟩
            obtain rfl := he (by rw [HRS.out]; omega)
            rw [HRUN.out]
            have HG1 : Hid (Gr w (.slice vo (pre.length + out0.length) vcap) w1 (.slice vo' (pre.length + out.length) cap')) := HG.out.then_below hb1
            clear hb1 he
            go_wp2
            (try rw [Exit.noGoto_ret])
            go_ret2
            refine ⟨(fun o ho => by rw [HN.out] at ho; cases ho), fun _ => ⟨w1.heap.size + 1, (i : Int), (.slice vo' (pre.length + out.length) cap' : Value), rfl, alloc2_heap _ _ _, ?_, (HG1.out.then_below ((Below.refl _ _).alloc (Nat.le_refl _) _)).then_below ((Below.refl _ _).alloc (Nat.le_refl _) _)⟩⟩
            have := HG1.out.size; omega
          · have HU2 : Hid (Sk.unpN p.data.toList most f (i + 2 + c) (out ++ M) = R) := by
              have := HU.out
              rw [Sk.unpN, if_pos (by rw [HL.out]; exact hip), HC.out, if_pos h128, if_neg (by rw [HL.out]; omega), if_neg hbig, ← HMS.out] at this
              exact this
            clear HU
            have hbi : (c : Int) + 1 ≤ (pre.length : Int) + most - ((pre.length : Int) + out.length) := by omega
            have hre : (0 : Int) ≤ (pre.length : Int) + out.length - (pre.length : Int) := by omega
            go_wp2_with fail
            refine (read_run (p.extract i p.size) c wr (by rw [HRS.out]; omega) (by rw [HRS.out]; omega) HCR.out h128).mono ?_
            rintro e w1 ⟨hb1, _, he⟩
            obtain rfl := he (by rw [HRS.out]; omega)
            rw [HRUN.out]
            have HB1 : Hid (Bts (w1.alloc (.cells #[.string ⟨M.toArray⟩, .int .i64 0, .int .i64 ((c : Int) + 1), .int .i64 ((c : Int) + 2)] 158)) (.slice vo' (pre.length + out.length) cap') (pre ++ out)) := (HB.out.below hb1).below ((Below.refl _ _).alloc (Nat.le_refl _) _)
            have HG1 : Hid (Gr w (.slice vo (pre.length + out0.length) vcap) (w1.alloc (.cells #[.string ⟨M.toArray⟩, .int .i64 0, .int .i64 ((c : Int) + 1), .int .i64 ((c : Int) + 2)] 158)) (.slice vo' (pre.length + out.length) cap')) := (HG.out.then_below hb1).then_below ((Below.refl _ _).alloc (Nat.le_refl _) _)
            have HAP : Hid (Apart (w1.alloc (.cells #[.string ⟨M.toArray⟩, .int .i64 0, .int .i64 ((c : Int) + 1), .int .i64 ((c : Int) + 2)] 158)) (.slice vo' (pre.length + out.length) cap') w1.heap.size) := ⟨by simp, fun e => by have := HLT.out _ e; have := hb1.size; omega⟩
            have C3 : Hid ((w1.alloc (.cells #[.string ⟨M.toArray⟩, .int .i64 0, .int .i64 ((c : Int) + 1), .int .i64 ((c : Int) + 2)] 158)).cell? ⟨w1.heap.size, 3, none⟩ = some (.int .i64 ((c : Int) + 2))) := by show _ = _; simp
            clear hb1 he
            go_wp2_with (at_builtin; refine wpList_append_bts rfl (.tmp 50) (.tmp 52) 9 rfl (.slice vo' (pre.length + out.length) cap') (.string ⟨M.toArray⟩) (pre ++ out) M rfl rfl HB1.out (src_str _ M) (by rw [HML.out]; omega) (by rw [HML.out, List.length_append]; omega) ?_; intro v2 w2 hb2 hg2; have c3 := (HAP.out.cell hg2 3).trans C3.out; have HB2 : Hid (Bts w2 v2 (pre ++ out ++ M)) := hb2; have HG2 : Hid (Gr w (.slice vo (pre.length + out0.length) vcap) w2 v2) := HG1.out.trans hg2; clear hb2 hg2)
            go_roundw
            case rel =>
              have hb := HB2.out
              rw [List.append_assoc] at hb
              obtain ⟨vo2, cap2, rfl⟩ := hb.form
              exact ⟨f, i + 2 + c, out ++ M, vo2, cap2, by rw [List.length_append], by go_num, by omega, by omega, by rw [List.length_append, HML.out]; omega, hb, HG2.out, HU2.out⟩
            case measure => simp [intOf]; omega
      · obtain ⟨d, hd⟩ : ∃ d, d = Sk.numAt p.data.toList (i + 1) 2 := ⟨_, rfl⟩
        have HD : Hid (Sk.numAt p.data.toList (i + 1) 2 = d) := hd.symm
        have hdl : d < 65536 := by rw [hd]; exact Sk.numAt_lt _ 2 _
        clear hd
        obtain ⟨n, hn⟩ : ∃ n, n = c - 128 + 4 := ⟨_, rfl⟩
        have HN2 : Hid (n = c - 128 + 4) := hn
        have hn4 : n ≤ 1000 := by omega
        clear hn
        by_cases h3 : p.size - i < 3
        · have HN : Hid (R = none) := by
            have := HU.out
            rw [Sk.unpN, if_pos (by rw [HL.out]; exact hip), HC.out, if_neg h128, if_pos (by rw [HL.out]; omega)] at this
            exact this.symm
          clear HU
          go_wp2_with fail
          refine (read_copy (p.extract i p.size) c _ wr (by rw [HRS.out]; omega) (by rw [HRS.out]; omega) HCR.out (by omega) rfl).mono ?_
          rintro e w1 ⟨hb1, he, _⟩
          obtain ⟨t, rfl⟩ := he (by rw [HRS.out]; exact h3)
          have HG1 : Hid (Gr w (.slice vo (pre.length + out0.length) vcap) w1 (.slice vo' (pre.length + out.length) cap')) := HG.out.then_below hb1
          clear hb1 he
          go_wp2
          (try rw [Exit.noGoto_ret])
          go_ret2
          refine ⟨(fun o ho => by rw [HN.out] at ho; cases ho), fun _ => ⟨w1.heap.size + 1, (i : Int), (.slice vo' (pre.length + out.length) cap' : Value), rfl, alloc2_heap _ _ _, ?_, (HG1.out.then_below ((Below.refl _ _).alloc (Nat.le_refl _) _)).then_below ((Below.refl _ _).alloc (Nat.le_refl _) _)⟩⟩
          have := HG1.out.size; omega
        · have HDR : Hid (Sk.numAt (p.extract i p.size).data.toList 1 2 = d) := by show _ = _; rw [numAt_extract p i p.size 2 1 (by omega)]; exact HD.out
          by_cases hbad : d < 1 ∨ out.length < d ∨ most < out.length + n
          · have HN : Hid (R = none) := by
              have := HU.out
              rw [Sk.unpN, if_pos (by rw [HL.out]; exact hip), HC.out, if_neg h128, if_neg (by rw [HL.out]; omega), HD.out] at this
              by_cases q : d < 1 ∨ out.length < d
              · rw [if_pos q] at this; exact this.symm
              · rw [if_neg q, if_pos (by rw [← HN2.out]; omega)] at this; exact this.symm
            clear HU
            have hcase : ((d : Int) ≤ 0) ∨ ((0 : Int) < d ∧ (pre.length : Int) + most - ((pre.length : Int) + out.length) < (n : Int)) ∨ ((0 : Int) < d ∧ (n : Int) ≤ (pre.length : Int) + most - ((pre.length : Int) + out.length) ∧ (pre.length : Int) + out.length - (pre.length : Int) < (d : Int)) := by omega
            clear hbad
            obtain ⟨wh, hwh⟩ : ∃ wh, decide ((0 : Int) < d) = wh := ⟨_, rfl⟩
            have HWH : Hid (decide ((0 : Int) < d) = wh) := hwh
            have hcase2 : wh = false ∨ (wh = true ∧ (pre.length : Int) + most - ((pre.length : Int) + out.length) < (n : Int)) ∨ (wh = true ∧ (n : Int) ≤ (pre.length : Int) + most - ((pre.length : Int) + out.length) ∧ (pre.length : Int) + out.length - (pre.length : Int) < (d : Int)) := by
              rcases hcase with b1 | ⟨b1, b2⟩ | ⟨b1, b2, b3⟩
              · exact .inl (by rw [← hwh]; exact decide_eq_false (by omega))
              · exact .inr (.inl ⟨by rw [← hwh]; exact decide_eq_true b1, b2⟩)
              · exact .inr (.inr ⟨by rw [← hwh]; exact decide_eq_true b1, b2, b3⟩)
            clear hcase hwh
            rcases hcase2 with rfl | ⟨rfl, b2⟩ | ⟨rfl, b2, b3⟩
            all_goals
              go_wp2_with fail
              refine (read_copy (p.extract i p.size) c d wr (by rw [HRS.out]; omega) (by rw [HRS.out]; omega) HCR.out (by omega) HDR.out).mono ?_
              rintro e w1 ⟨hb1, _, he⟩
              obtain rfl := he (by rw [HRS.out]; omega)
              rw [← HN2.out, HWH.out]
              have HG1 : Hid (Gr w (.slice vo (pre.length + out0.length) vcap) w1 (.slice vo' (pre.length + out.length) cap')) := HG.out.then_below hb1
              clear hb1 he
              go_wp2
              (try rw [Exit.noGoto_ret])
              go_ret2
              refine ⟨(fun o ho => by rw [HN.out] at ho; cases ho), fun _ => ⟨w1.heap.size + 1, (i : Int), (.slice vo' (pre.length + out.length) cap' : Value), rfl, alloc2_heap _ _ _, ?_, (HG1.out.then_below ((Below.refl _ _).alloc (Nat.le_refl _) _)).then_below ((Below.refl _ _).alloc (Nat.le_refl _) _)⟩⟩
              have := HG1.out.size; omega
          · have HU2 : Hid (Sk.unpN p.data.toList most f (i + 3) (Sk.cpy d n out) = R) := by
              have := HU.out
              rw [Sk.unpN, if_pos (by rw [HL.out]; exact hip), HC.out, if_neg h128, if_neg (by rw [HL.out]; omega), HD.out, if_neg (by omega), ← HN2.out, if_neg (by omega)] at this
              exact this
            clear HU
            have b1 : (0 : Int) < d := by omega
            have b2 : (n : Int) ≤ (pre.length : Int) + most - ((pre.length : Int) + out.length) := by omega
            have b3 : (d : Int) ≤ (pre.length : Int) + out.length - (pre.length : Int) := by omega
            have b0 : ((d : Int) == 0) = false := by rw [beq_eq_false_iff_ne]; omega
            have hd1 : 1 ≤ d := by omega
            have HWH : Hid (decide ((0 : Int) < d) = true) := decide_eq_true b1
            have hd2 : d ≤ out.length := by omega
            have hmn : out.length + n ≤ most := by omega
            go_wp2_with fail
            refine (read_copy (p.extract i p.size) c d wr (by rw [HRS.out]; omega) (by rw [HRS.out]; omega) HCR.out (by omega) HDR.out).mono ?_
            rintro e w1 ⟨hb1, _, he⟩
            obtain rfl := he (by rw [HRS.out]; omega)
            rw [← HN2.out, HWH.out]
            have HB1 : Hid (Bts (w1.alloc (.cells #[.string ⟨#[]⟩, .int .i64 d, .int .i64 n, .int .i64 3] 158)) (.slice vo' (pre.length + out.length) cap') (pre ++ out)) := (HB.out.below hb1).below ((Below.refl _ _).alloc (Nat.le_refl _) _)
            have HG1 : Hid (Gr w (.slice vo (pre.length + out0.length) vcap) (w1.alloc (.cells #[.string ⟨#[]⟩, .int .i64 d, .int .i64 n, .int .i64 3] 158)) (.slice vo' (pre.length + out.length) cap')) := (HG.out.then_below hb1).then_below ((Below.refl _ _).alloc (Nat.le_refl _) _)
            have HAP : Hid (Apart (w1.alloc (.cells #[.string ⟨#[]⟩, .int .i64 d, .int .i64 n, .int .i64 3] 158)) (.slice vo' (pre.length + out.length) cap') w1.heap.size) := ⟨by simp, fun e => by have := HLT.out _ e; have := hb1.size; omega⟩
            have HTB : Hid ((w1.alloc (.cells #[.string ⟨#[]⟩, .int .i64 d, .int .i64 n, .int .i64 3] 158)).heap[w1.heap.size]? = some (.cells #[.string ⟨#[]⟩, .int .i64 d, .int .i64 n, .int .i64 3] 158 (0, 0))) := heap_alloc_new _ _
            clear hb1 he
            go_wp2_with fail
            go_loopw [0, 60] (fun v j wr2 => ∃ k : Nat, ∃ o vo2 cap2, v = .slice vo2 (pre.length + o.length) cap2 ∧ j = .int .i64 k ∧ k ≤ n ∧ o.length = out.length + k ∧ Bts wr2 v (pre ++ o) ∧ Gr w (.slice vo (pre.length + out0.length) vcap) wr2 v ∧ Apart wr2 v w1.heap.size ∧ wr2.heap[w1.heap.size]? = some (.cells #[.string ⟨#[]⟩, .int .i64 d, .int .i64 n, .int .i64 3] 158 (0, 0)) ∧ Sk.cpy d (n - k) o = Sk.cpy d n out) (fun _ j _ => n - (intOf j).toNat)
            case atStart => exact ⟨0, out, vo', cap', rfl, rfl, by omega, rfl, HB1.out, HG1.out, HAP.out, HTB.out, rfl⟩
            case round =>
              obtain ⟨k, o, vo2, cap2, rfl, rfl, hk, hol, hB2, hG2, hA2, hT2, hC2⟩ := hrel
              clear HB1 HG1 HAP HTB
              have HB2 : Hid (Bts wr (.slice vo2 (pre.length + o.length) cap2) (pre ++ o)) := hB2
              have HG2 : Hid (Gr w (.slice vo (pre.length + out0.length) vcap) wr (.slice vo2 (pre.length + o.length) cap2)) := hG2
              have HA2 : Hid (Apart wr (.slice vo2 (pre.length + o.length) cap2) w1.heap.size) := hA2
              have HT2 : Hid (wr.heap[w1.heap.size]? = some (.cells #[.string ⟨#[]⟩, .int .i64 d, .int .i64 n, .int .i64 3] 158 (0, 0))) := hT2
              have HC2 : Hid (Sk.cpy d (n - k) o = Sk.cpy d n out) := hC2
              have t1 : wr.cell? ⟨w1.heap.size, 1, none⟩ = some (.int .i64 d) := by simp [World.cell?, hT2]
              have t3 : wr.cell? ⟨w1.heap.size, 3, none⟩ = some (.int .i64 3) := by simp [World.cell?, hT2]
              have hzt := hA2.1
              clear hB2 hG2 hA2 hT2 hC2
              by_cases hkn : k < n
              · obtain ⟨q, hq⟩ : ∃ q : Nat, (pre.length : Int) + (o.length : Int) - (d : Int) = (q : Int) ∧ q = pre.length + (o.length - d) := ⟨pre.length + (o.length - d), by omega, rfl⟩
                obtain ⟨hq1, hq2⟩ := hq
                obtain ⟨g, cap3, e3, hg3, hcell⟩ := HB2.out.at q (by rw [List.length_append]; omega)
                rw [hq2, Sk.gt_app, ← hq2] at hcell
                rw [List.length_append] at e3
                cases e3
                obtain ⟨x, hx⟩ : ∃ x, x = Sk.gt o (o.length - d) := ⟨_, rfl⟩
                rw [← hx] at hcell
                have HX : Hid (x = Sk.gt o (o.length - d)) := hx
                have hcell2 : wr.cell? ⟨g, pre.length + o.length - d, none⟩ = some (.int .u8 x.toNat) := by rw [show pre.length + o.length - d = q by omega]; exact hcell
                have hqi : (pre.length : Int) + (o.length : Int) - (d : Int) < (pre.length : Int) + (o.length : Int) := by omega
                have hq0 : (0 : Int) ≤ (pre.length : Int) + (o.length : Int) - (d : Int) := by omega
                have hod : d ≤ pre.length + o.length := by omega
                have HOL : Hid (o.length = out.length + k) := hol
                have ho4 : o.length ≤ 300000 := by omega
                clear hx hq2 hq1 hcell hol
                have hkni : (k : Int) < (n : Int) := by omega
                have HSR : Hid (Src Tryd.prog 1 53 (.slice (some ⟨wr.heap.size, 0, none⟩) 1 1) [x].length ([x].map cellOf) (wr.alloc (.cells #[.int .u8 x.toNat] 5))) := src_new wr #[.int .u8 x.toNat] 1 [x] rfl rfl
                have HB3 : Hid (Bts (wr.alloc (.cells #[.int .u8 x.toNat] 5)) (.slice (some ⟨g, 0, none⟩) (pre.length + o.length) cap2) (pre ++ o)) := HB2.out.below ((Below.refl _ _).alloc (Nat.le_refl _) _)
                have HG3 : Hid (Gr w (.slice vo (pre.length + out0.length) vcap) (wr.alloc (.cells #[.int .u8 x.toNat] 5)) (.slice (some ⟨g, 0, none⟩) (pre.length + o.length) cap2)) := HG2.out.then_below ((Below.refl _ _).alloc (Nat.le_refl _) _)
                have HA3 : Hid (Apart (wr.alloc (.cells #[.int .u8 x.toNat] 5)) (.slice (some ⟨g, 0, none⟩) (pre.length + o.length) cap2) w1.heap.size) := ⟨by simp; omega, HA2.out.2⟩
                have HT3 : Hid ((wr.alloc (.cells #[.int .u8 x.toNat] 5)).heap[w1.heap.size]? = some (.cells #[.string ⟨#[]⟩, .int .i64 d, .int .i64 n, .int .i64 3] 158 (0, 0))) := (((Below.refl wr.heap.size wr).alloc (Nat.le_refl _) _).block _ hzt).trans HT2.out
                go_wp2_with (at_builtin; refine wpList_append_bts rfl (.tmp 62) (.tmp 71) 53 rfl (.slice (some ⟨g, 0, none⟩) (pre.length + o.length) cap2) (.slice (some ⟨wr.heap.size, 0, none⟩) 1 1) (pre ++ o) [x] rfl rfl HB3.out HSR.out (Nat.succ_pos _) (by rw [List.length_append]; simp; omega) ?_; intro v2 w2 hb2 hg2; have HB4 : Hid (Bts w2 v2 (pre ++ o ++ [x])) := hb2; have HG4 : Hid (Gr w (.slice vo (pre.length + out0.length) vcap) w2 v2) := HG3.out.trans hg2; have HA4 : Hid (Apart w2 v2 w1.heap.size) := HA3.out.step hg2; have HT4 : Hid (w2.heap[w1.heap.size]? = some (.cells #[.string ⟨#[]⟩, .int .i64 d, .int .i64 n, .int .i64 3] 158 (0, 0))) := (hg2.block _ HA3.out.1 (fun e => HA3.out.2 e.symm)).trans HT3.out; clear hb2 hg2)
                go_roundw
                case rel =>
                  have hb := HB4.out
                  rw [List.append_assoc] at hb
                  obtain ⟨vo3, cap3, rfl⟩ := hb.form
                  refine ⟨k + 1, o ++ [x], vo3, cap3, by rw [List.length_append], by go_num, by omega, by rw [List.length_append, HOL.out]; simp; omega, hb, HG4.out, HA4.out, HT4.out, ?_⟩
                  rw [← HC2.out, show n - k = (n - (k + 1)) + 1 by omega, Sk.cpy, HX.out]
                case measure => simp [intOf]; omega
              · obtain rfl : k = n := by omega
                have HO : Hid (o = Sk.cpy d k out) := by
                  have := HC2.out
                  rw [Nat.sub_self] at this
                  exact this
                go_wp2
                go_roundw
                case rel =>
                  exact ⟨f, i + 3, o, vo2, cap2, rfl, by go_num, by omega, by omega, by omega, HB2.out, HG2.out, by rw [HO.out]; exact HU2.out⟩
                case measure => simp [intOf]; omega
    · have hf0 : Sk.unpN p.data.toList most (f + 1) i out = if out.length = most then some out else none := by
        rw [Sk.unpN, if_neg (by rw [HL.out]; exact hip)]
      have HRE : Hid (R = if out.length = most then some out else none) := by show _ = _; rw [← hf0]; exact HU.out.symm
      clear hf0 HU
      by_cases hom : out.length = most
      · have HN : Hid (R = some out) := by show _ = _; rw [HRE.out, if_pos hom]
        have hoi : (pre.length : Int) + most ≤ (pre.length : Int) + out.length := by omega
        have hii : (p.size : Int) ≤ (i : Int) := by omega
        clear hom
        go_wp2
        (try rw [Exit.noGoto_ret])
        go_ret2
        refine ⟨fun o ho => ?_, (fun h => by rw [HN.out] at h; cases h)⟩
        rw [HN.out] at ho
        cases ho
        exact ⟨_, rfl, HB.out, HG.out⟩
      · have HN : Hid (R = none) := by show _ = _; rw [HRE.out, if_neg hom]
        have hoi : (pre.length : Int) + out.length < (pre.length : Int) + most := by omega
        have hii : (p.size : Int) ≤ (i : Int) := by omega
        clear hom
        go_wp2
        (try rw [Exit.noGoto_ret])
        go_ret2
        refine ⟨(fun o ho => by rw [HN.out] at ho; cases ho), fun _ => ⟨wr.heap.size, (i : Int), (.slice vo' (pre.length + out.length) cap' : Value), rfl, heap_alloc_new _ _, HG.out.size, HG.out.then_below ((Below.refl _ _).alloc (Nat.le_refl _) _)⟩⟩
end Go.Proofs.YtafkpmjifgohcaaDoor
