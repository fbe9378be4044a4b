/- The law Local from the choice of the block on: one byte is turned, the file is opened and checked. -/
import Derived.Test.YtafkpmjifgohcaaDoorLocalPart22
import Derived.Deep.DeepCutAuto
namespace Go.Proofs.YtafkpmjifgohcaaDoor
open Go.RowKit

theorem data_size (s0 : ByteArray) (h : s0.size ≤ 500) : 4 ≤ ((⟨#[100, 97, 116, 97]⟩ : ByteArray) ++ s0).size ∧ ((⟨#[100, 97, 116, 97]⟩ : ByteArray) ++ s0).size ≤ 504 := by
  rw [ByteArray.size_append, show (⟨#[100, 97, 116, 97]⟩ : ByteArray).size = 4 from rfl]
  omega

/-- A string's bytes as a slice of the call's own, to be written. -/
theorem convW_any (F : List UInt8) : ∃ (C : World → World) (c : World → Nat), (∀ W, (convert 9 53 (.string ⟨F.toArray⟩)).run Tryd.prog W = .ok (.slice (some ⟨W.heap.size, 0, none⟩) F.length (c W)) (C W)) ∧
    (∀ W, Below W.heap.size W (C W)) ∧ (∀ W j (h : j < F.length), (C W).cell? ⟨W.heap.size, j, none⟩ = some (.int .u8 F[j].toNat)) ∧ ∀ W j, j < F.length → (C W).frozen? ⟨W.heap.size, j, none⟩ = false := by
  have hz : (⟨F.toArray⟩ : ByteArray).size = F.length := by show F.toArray.size = _; simp
  refine ⟨fun W => Lib.bytesWorld W 5 ⟨F.toArray⟩, fun W => grownCap W (⟨F.toArray⟩ : ByteArray).size 0 5, fun W => ?_, fun W => ?_, fun W j h => ?_, fun W j h => ?_⟩
  · rw [← hz]; exact Lib.run_convert_string_bytes W 9 53 5 ⟨F.toArray⟩ Tryd.underlying9 Tryd.underlying53 Tryd.underlying5
  · exact Lib.below_freeze (((Below.refl _ W).drew).alloc (Nat.le_refl _) _) (p := ⟨W.heap.size, _, none⟩) (Nat.le_refl _) _
  · rw [Lib.bytesWorld_cell W 5 ⟨F.toArray⟩ j (by omega), dl_str, List.getD_eq_getElem?_getD, List.getElem?_eq_getElem h]
    rfl
  · have hc : j < (Lib.bytesCells W 5 ⟨F.toArray⟩).size := by
      unfold Lib.bytesCells
      simp
      omega
    unfold World.frozen?
    rw [Lib.bytesWorld_at_new]
    simp
    omega

/-- One of them is written: as a string. -/
theorem turned_str (W : World) (g cap a : Nat) (F : List UInt8) (x : UInt8) (hc : ∀ j (h : j < F.length), W.cell? ⟨g, j, none⟩ = some (.int .u8 F[j].toNat)) :
    (convert 53 9 (.slice (some ⟨g, 0, none⟩) F.length cap)).run Tryd.prog (W.setCell ⟨g, a, none⟩ (.int .u8 x.toNat)) = .ok (.string ⟨(F.set a x).toArray⟩) (W.setCell ⟨g, a, none⟩ (.int .u8 x.toNat)) := by
  have := run_convert_bytes_back (P := Tryd.prog) (W.setCell ⟨g, a, none⟩ (.int .u8 x.toNat)) 53 9 5 ⟨g, 0, none⟩ cap (F.set a x) Tryd.underlying53 Tryd.underlying5 Tryd.underlying9 (fun j hj => by
    rw [add_plain]
    rw [List.length_set] at hj
    by_cases e : a = j
    · subst e
      rw [World.cell?_setCell_same _ _ _ (hc a hj)]
      simp
    · rw [World.cell?_setCell_other _ _ _ _ (fun h => e (by cases h; rfl)), hc j hj, List.getElem_set_ne e])
  rwa [List.length_set] at this

theorem pickK_det (c : Int) (n : Nat) (hc : Fits c) (hn : 0 < n) (hn2 : n ≤ 1000000000000000) :
    ∃ k : Nat, k < n ∧ ∀ w, Calls Tryd.prog 15 #[.int .i64 c, .int .i64 n] w fun e w' => e = .returned (.int .i64 k) ∧ w' = w := by
  by_cases h0 : 0 ≤ c
  · have HF : Hid (∃ k : Nat, k < n ∧ (k : Int) = c % (n : Int)) := by
      refine ⟨(c % (n : Int)).toNat, ?_, ?_⟩
      · have := Int.emod_lt_of_pos c (show (0 : Int) < n by omega); have := Int.emod_nonneg c (show (n : Int) ≠ 0 by omega); omega
      · have := Int.emod_nonneg c (show (n : Int) ≠ 0 by omega); omega
    have hnb : ((n : Int) == 0) = false := by rw [beq_eq_false_iff_ne]; omega
    clear hc
    obtain ⟨k, hk, e⟩ := HF.out
    have HE : Hid ((k : Int) = c % (n : Int)) := e
    clear e HF
    refine ⟨k, hk, fun w => ?_⟩
    go_enter Tryd.func15, Tryd.ntmps15
    go_wp2
    go_ret
    exact ⟨ret_int (by rw [HE.out]), rfl⟩
  · have h1 : Fits (c + 1) := ⟨by have := hc.1; omega, by omega⟩
    have h2 : Fits (-(c + 1)) := ⟨by omega, by have := hc.1; omega⟩
    have w1 := wrap_fits _ h1
    have w2 := wrap_fits _ h2
    obtain ⟨y, hy⟩ : ∃ y : Nat, (y : Int) = -(c + 1) := ⟨(-(c + 1)).toNat, by omega⟩
    have hneg : c < 0 := by omega
    clear hc h1 h2 h0
    refine ⟨y % n, Nat.mod_lt _ hn, fun w => ?_⟩
    go_enter Tryd.func15, Tryd.ntmps15
    go_wp2
    go_ret
    refine ⟨ret_int ?_, rfl⟩
    rw [← Int.neg_tmod, ← hy]
    exact Int.ofNat_tmod y n

set_option maxRecDepth 100000 in
set_option maxHeartbeats 8000000 in
theorem local_B {reg rest : Code} {K : Act → World → Prop} (hcode : Tryd.f7.body.bind (fromR 22) = some (.seq reg rest)) {sl6 sl7 sl8 sl9 sl10 sl11 sl12 sl13 sl14 sl17 sl18 sl19 sl20 sl21 sl22 sl23 sl24 sl25 sl26 sl27 sl28 sl29 sl30 sl31 sl32 sl33 sl34 sl35 sl36 sl37 sl38 sl39 sl40 sl41 sl42 sl43 sl44 sl45 sl46 sl47 sl48 sl49 sl50 sl51 sl52 sl53 sl54 sl55 sl56 sl57 sl58 sl59 sl60 sl61 sl62 sl63 sl64 sl65 sl66 sl67 sl68 sl69 sl70 sl71 sl72 sl73 sl74 sl75 sl76 sl77 sl78 sl79 sl80 sl81 sl82 sl83 sl84 sl85 sl86 sl87 sl88 sl89 sl90 sl91 sl92 sl93 sl94 sl95 sl96 sl97 sl98 sl99 sl100 sl101 sl102 sl103 sl104 sl105 sl106 sl107 sl108 sl109 sl110 sl111 sl112 sl113 sl114 sl115 sl116 sl117 sl118 sl119 sl120 sl121 sl122 sl123 sl124 sl125 sl126 sl127 sl128 sl129 sl130 sl131 sl132 sl133 sl134 sl135 sl136 sl137 sl138 sl139 sl140 sl141 sl142 sl143 sl144 sl145 sl146 sl147 sl148 sl149 sl150 sl151 sl152 sl153 sl154 sl155 sl156 sl157 sl158 sl159 sl160 sl161 sl162 sl163 sl164 sl165 sl166 sl167 sl168 sl169 sl170 sl171 sl172 sl173 sl174 sl175 sl176 sl177 sl178 sl179 sl180 sl181 sl182 sl183 sl184 sl185 sl186 sl187 sl188 sl189 sl190 sl191 sl192 sl193 sl194 sl195 sl196 sl197 sl198 sl199 sl200 sl201 sl202 sl203 sl204 sl205 sl206 sl207 sl208 sl209 sl210 sl211 sl212 sl213 sl214 sl215 sl216 sl217 sl218 sl219 sl220 sl221 sl222 sl223 sl224 sl225 sl226 sl227 sl228 sl229 sl230 sl231 sl232 sl233 sl234 sl235 sl236 sl237 sl238 sl239 sl240 sl241 sl242 sl243 sl244 sl245 sl246 sl247 sl248 sl249 sl250 sl251 sl252 sl253 sl254 sl255 sl256 sl257 sl258 sl259 sl260 sl261 sl262 sl263 sl264 sl265 sl266 sl267 sl268 sl269 sl270 sl271 sl272 sl273 sl274 sl275 sl276 sl277 sl278 sl279 sl280 sl281 sl282 sl283 sl284 sl285 sl286 sl287 sl288 sl289 sl290 sl291 sl292 sl293 sl294 sl295 sl296 sl297 sl298 sl299 sl300 sl301 sl302 sl303 sl304 sl305 sl306 sl307 sl308 sl309 sl310 : Value} (A : Nat → Addr) (w w4 : World) (t : ByteArray) (bl evy lcap : Nat) (which byte1 flip : Int) (lo : Option Addr) (F : List UInt8) (bs : List Sk.Blk)
    (h3 : Fits which) (h4 : Fits byte1) (h5 : Fits flip) (hSS : ∀ W, Below w.heap.size w W → SentB W A W.heap.size) (hT : ErrT w) (hB4 : Below w.heap.size w w4) (hL4 : Rw w4 4 (.slice lo bs.length lcap) bs.length (Sk.cellsOf bs))
    (hF : F = Sk.fileOf t.data.toList bl evy) (hBS : bs = Sk.fblk t.data.toList bl evy t.data.toList.length 0 0 3) (hTL : t.data.toList.length = t.size) (hLK : Sk.Looks t.size bl F.length bs)
    (hpos : 0 < bs.length) (hbl : bs.length ≤ 504) (ht2 : t.size ≤ 504) (hFl : F.length ≤ 60000) (hbl1 : 1 ≤ bl) (hbl2 : bl ≤ 60) (hev1 : 1 ≤ evy) (hev2 : evy ≤ 5)
    (hK : ∀ a w', rest.wp Tryd.prog (bodyPost Tryd.prog Tryd.f7 (fun e w' => e = .returned (.bool true) ∧ Below w.heap.size w w')) a w' → K a w') :
    reg.wp Tryd.prog (Exit.then K (bodyPost Tryd.prog Tryd.f7 (fun e w' => e = .returned (.bool true) ∧ Below w.heap.size w w'))) { tmps := #[.string t, .int .i64 bl, .int .i64 evy, .int .i64 which, .int .i64 byte1, .int .i64 flip, sl6, sl7, sl8, sl9, sl10, sl11, sl12, sl13, sl14, .string ⟨F.toArray⟩, .slice lo bs.length lcap, sl17, sl18, sl19, sl20, sl21, sl22, sl23, sl24, sl25, sl26, sl27, sl28, sl29, sl30, sl31, sl32, sl33, sl34, sl35, sl36, sl37, sl38, sl39, sl40, sl41, sl42, sl43, sl44, sl45, sl46, sl47, sl48, sl49, sl50, sl51, sl52, sl53, sl54, sl55, sl56, sl57, sl58, sl59, sl60, sl61, sl62, sl63, sl64, sl65, sl66, sl67, sl68, sl69, sl70, sl71, sl72, sl73, sl74, sl75, sl76, sl77, sl78, sl79, sl80, sl81, sl82, sl83, sl84, sl85, sl86, sl87, sl88, sl89, sl90, sl91, sl92, sl93, sl94, sl95, sl96, sl97, sl98, sl99, sl100, sl101, sl102, sl103, sl104, sl105, sl106, sl107, sl108, sl109, sl110, sl111, sl112, sl113, sl114, sl115, sl116, sl117, sl118, sl119, sl120, sl121, sl122, sl123, sl124, sl125, sl126, sl127, sl128, sl129, sl130, sl131, sl132, sl133, sl134, sl135, sl136, sl137, sl138, sl139, sl140, sl141, sl142, sl143, sl144, sl145, sl146, sl147, sl148, sl149, sl150, sl151, sl152, sl153, sl154, sl155, sl156, sl157, sl158, sl159, sl160, sl161, sl162, sl163, sl164, sl165, sl166, sl167, sl168, sl169, sl170, sl171, sl172, sl173, sl174, sl175, sl176, sl177, sl178, sl179, sl180, sl181, sl182, sl183, sl184, sl185, sl186, sl187, sl188, sl189, sl190, sl191, sl192, sl193, sl194, sl195, sl196, sl197, sl198, sl199, sl200, sl201, sl202, sl203, sl204, sl205, sl206, sl207, sl208, sl209, sl210, sl211, sl212, sl213, sl214, sl215, sl216, sl217, sl218, sl219, sl220, sl221, sl222, sl223, sl224, sl225, sl226, sl227, sl228, sl229, sl230, sl231, sl232, sl233, sl234, sl235, sl236, sl237, sl238, sl239, sl240, sl241, sl242, sl243, sl244, sl245, sl246, sl247, sl248, sl249, sl250, sl251, sl252, sl253, sl254, sl255, sl256, sl257, sl258, sl259, sl260, sl261, sl262, sl263, sl264, sl265, sl266, sl267, sl268, sl269, sl270, sl271, sl272, sl273, sl274, sl275, sl276, sl277, sl278, sl279, sl280, sl281, sl282, sl283, sl284, sl285, sl286, sl287, sl288, sl289, sl290, sl291, sl292, sl293, sl294, sl295, sl296, sl297, sl298, sl299, sl300, sl301, sl302, sl303, sl304, sl305, sl306, sl307, sl308, sl309, sl310], defers := [] } w4 := by
  have e0 : Tryd.f7.body.bind (fromR 22) = some _ := rfl
  have e1 := Option.some.inj (e0.symm.trans hcode)
  injection e1 with e2 e3
  subst e2
  subst e3
  clear e0 hcode
  have H3 : Hid (Fits which) := h3
  have H4 : Hid (Fits byte1) := h4
  have H5 : Hid (Fits flip) := h5
  have HSS : Hid (∀ W, Below w.heap.size w W → SentB W A W.heap.size) := hSS
  have HT : Hid (ErrT w) := hT
  have HB4 : Hid (Below w.heap.size w w4) := hB4
  have HL4 : Hid (Rw w4 4 (.slice lo bs.length lcap) bs.length (Sk.cellsOf bs)) := hL4
  have HF : Hid (F = Sk.fileOf t.data.toList bl evy) := hF
  have HBS : Hid (bs = Sk.fblk t.data.toList bl evy t.data.toList.length 0 0 3) := hBS
  have HTL : Hid (t.data.toList.length = t.size) := hTL
  have HLK : Hid (Sk.Looks t.size bl F.length bs) := hLK
  have hFz : (⟨F.toArray⟩ : ByteArray).size = F.length := by show F.toArray.size = F.length; simp
  clear h3 h4 h5 hSS hT hB4 hL4 hF hBS hTL hLK
  go_wp2_with fail
  refine (pickK_any which bs.length w4 H3.out hpos (by omega)).mono ?_
  rintro e w5 ⟨k, hk, rfl, hw5⟩
  rw [hw5]
  clear hw5 w5
  obtain ⟨a, rfl, ha⟩ := HL4.out.blk k hk
  have x2 := ha 2 (by decide)
  simp [Sk.Blk.cells] at x2
  clear ha
  have kk : (k : Int) < (bs.length : Int) := by omega
  have HEND : Hid ((Sk.bk bs k).pos + 9 + Sk.numAt F ((Sk.bk bs k).pos + 3) 2 = if k + 1 < bs.length then (Sk.bk bs (k + 1)).pos else F.length) := by
    have hk' := hk
    rw [HBS.out] at hk'
    show _ = _
    rw [HF.out, HBS.out]
    exact Sk.fblk_end _ _ _ _ hbl1 (by omega) (by rw [HTL.out]; omega) hk'
  have HM1 : Hid (1 ≤ Sk.numAt F ((Sk.bk bs k).pos + 3) 2) := by
    have hk' := hk
    rw [HBS.out] at hk'
    show 1 ≤ _
    rw [HF.out, HBS.out]
    exact Sk.packed_pos hbl1 (by omega) (by rw [HTL.out]; omega) k hk'
  have HIN : Hid ((Sk.bk bs k).pos + 9 + Sk.numAt F ((Sk.bk bs k).pos + 3) 2 ≤ F.length) := by
    show _ ≤ _
    rw [HEND.out]
    split
    · next c => exact (HLK.out.nxt k c).2
    · exact Nat.le_refl _
  obtain ⟨C, cp, hC, hCB, hCC, hCF⟩ := convW_any F
  have HCB : Hid (∀ W, Below W.heap.size W (C W)) := hCB
  have HCC : Hid (∀ W j (h : j < F.length), (C W).cell? ⟨W.heap.size, j, none⟩ = some (.int .u8 F[j].toNat)) := hCC
  have HCF : Hid (∀ W j, j < F.length → (C W).frozen? ⟨W.heap.size, j, none⟩ = false) := hCF
  clear hCB hCC hCF
  obtain ⟨p, hp⟩ : ∃ p, p = (Sk.bk bs k).pos := ⟨_, rfl⟩
  obtain ⟨m, hm⟩ : ∃ m, m = Sk.numAt F ((Sk.bk bs k).pos + 3) 2 := ⟨_, rfl⟩
  have HP : Hid (p = (Sk.bk bs k).pos) := hp
  have HM : Hid (m = Sk.numAt F ((Sk.bk bs k).pos + 3) 2) := hm
  rw [← hm] at HM1 HIN HEND
  rw [← hp] at x2 HIN HEND
  have hm1 : 1 ≤ m := HM1.out
  have hin : p + 9 + m ≤ F.length := HIN.out
  clear hp hm HM1 HIN
  obtain ⟨c, hc, hpk⟩ := pickK_det byte1 m H4.out hm1 (by omega)
  have HPK : Hid (∀ (z : Int) (w : World), z = (m : Int) → Calls Tryd.prog 15 #[.int .i64 byte1, .int .i64 z] w fun e w' => e = .returned (.int .i64 c) ∧ w' = w) := fun z w hz => by subst hz; exact hpk w
  obtain ⟨d, hd, hpk2⟩ := pickK_det flip 255 H5.out (by decide) (by decide)
  have HPK2 : Hid (∀ (w : World), Calls Tryd.prog 15 #[.int .i64 flip, .int .i64 255] w fun e w' => e = .returned (.int .i64 d) ∧ w' = w) := hpk2
  clear hpk hpk2
  obtain ⟨a0, ha0⟩ : ∃ a0, a0 = p + 9 + c := ⟨_, rfl⟩
  have haF : a0 < F.length := by omega
  have HA0 : Hid (a0 = p + 9 + c) := ha0
  have u3 : IntKind.i64.wrap ((p : Int) + 9) = (p : Int) + 9 := wrap_fits _ ⟨by omega, by omega⟩
  have u4 : IntKind.i64.wrap ((p : Int) + 9 + (c : Int)) = (a0 : Int) := by rw [wrap_fits _ ⟨by omega, by omega⟩]; omega
  have u5 : IntKind.i64.wrap (1 + (d : Int)) = 1 + (d : Int) := wrap_fits _ ⟨by omega, by omega⟩
  have u6 : IntKind.u8.wrap (1 + (d : Int)) = 1 + (d : Int) := by rw [IntKind.wrap_u8]; omega
  obtain ⟨y, hy⟩ : ∃ y, y = F[a0].toNat := ⟨_, rfl⟩
  have hy2 : y < 256 := by rw [hy]; exact F[a0].toNat_lt
  obtain ⟨x, hx⟩ : ∃ x, x = UInt8.ofNat (y ^^^ (1 + d)) := ⟨_, rfl⟩
  have hxn : x.toNat = y ^^^ (1 + d) := by
    rw [hx]
    exact UInt8.toNat_ofNat_of_lt' (Nat.xor_lt_two_pow (n := 8) hy2 (by omega))
  have u7 : bits .xor .u8 (y : Int) (1 + (d : Int)) = (x.toNat : Int) := by
    rw [show (1 : Int) + (d : Int) = ((1 + d : Nat) : Int) by omega, u8_xor_nat y (1 + d) hy2 (by omega), hxn]
  have HFX : Hid (Sk.Flip t.data.toList bl evy k a0 x) := by
    have hk' := hk
    rw [HBS.out] at hk'
    refine ⟨hbl1, by omega, by rw [HTL.out]; omega, hev1, hk', ?_, ?_, ?_⟩
    · rw [← HBS.out, ← HP.out]; omega
    · rw [← HBS.out, ← HF.out, ← HM.out, ← HP.out]; omega
    · rw [← HF.out]
      unfold Sk.gt
      rw [List.getD_eq_getElem?_getD, List.getElem?_eq_getElem haF]
      intro e
      have e2 : x.toNat = F[a0].toNat := by rw [e]; rfl
      rw [hxn, ← hy] at e2
      exact xor_ne y (1 + d) (by omega) e2
  have hCc : ∀ W, (C W).cell? ⟨W.heap.size, a0, none⟩ = some (.int .u8 (y : Int)) := fun W => by rw [hy]; exact HCC.out W a0 haF
  have HCc : Hid (∀ W, (C W).cell? ⟨W.heap.size, a0, none⟩ = some (.int .u8 (y : Int))) := hCc
  clear hxn hx hy ha0 hCc
  go_upto_if 158 with fail
  go_cut [21] (fun e wc => e = .int .i64 ((p : Int) + 9 + (m : Int)) ∧ w4 = wc)
  case first =>
    by_cases hn : k + 1 < bs.length
    · obtain ⟨a', ea, ha'⟩ := HL4.out.blk (k + 1) hn
      cases ea
      have y2 := ha' 2 (by decide)
      simp [Sk.Blk.cells] at y2
      clear ha'
      have HE := HEND
      rw [if_pos hn] at HE
      generalize (Sk.bk bs (k + 1)).pos = q at y2 HE
      have k2 : (k : Int) + 1 < (bs.length : Int) := by omega
      clear hn
      go_wp2_with fail
      go_meet
      case rel => exact ⟨by have := HE.out; congr 1; omega, rfl⟩
    · have HE := HEND
      rw [if_neg hn] at HE
      have k2 : ¬ (k : Int) + 1 < (bs.length : Int) := by omega
      clear hn
      go_wp2_with fail
      go_meet
      case rel => exact ⟨by have := HE.out; congr 1; omega, rfl⟩
  case rest =>
    obtain ⟨rfl, hwc⟩ := hcut
    subst hwc
    clear HEND
    have u1 : IntKind.i64.wrap ((p : Int) + 9 + (m : Int) - (p : Int)) = 9 + (m : Int) := by rw [wrap_fits _ ⟨by omega, by omega⟩]; omega
    have u2 : IntKind.i64.wrap (9 + (m : Int) - 9) = (m : Int) := by rw [wrap_fits _ ⟨by omega, by omega⟩]; omega
    go_wp2_with fail
    refine (fun hrest : Hid ?P10 => ?main10) ?rest10
    case main10 =>
      go_region_held3 (fun w' => w'.cell? ⟨a, k * 4 + 2, none⟩ = some (.int .i64 p)) (go_keep) ((go_at_call 15; refine Calls.mono (HPK.out _ _ rfl) ?_; rintro e w' ⟨rfl, rfl⟩))
      all_goals exact hrest.out
    case rest10 =>
      unfold Hid
      go_wp2_with fail
      have e0 := HCc.out w4.drew
      have f0 := HCF.out w4.drew a0 haF
      have z0 := (HCB.out w4.drew).size
      have hai : (a0 : Int) < (F.length : Int) := by omega
      rw [show w4.drew.heap.size = w4.heap.size from rfl] at e0 f0 z0
      refine (fun hrest : Hid ?P11 => ?main11) ?rest11
      case main11 =>
        go_region_with (go_at_call 15; refine Calls.mono (HPK2.out _) ?_; rintro e w' ⟨rfl, rfl⟩)
        all_goals exact hrest.out
      case rest11 =>
        unfold Hid
        have hcv : (convert 53 9 (.slice (some ⟨w4.heap.size, 0, none⟩) F.length (cp w4.drew))).run Tryd.prog ((C w4.drew).setCell ⟨w4.heap.size, a0, none⟩ (.int .u8 x.toNat)).drew = .ok (.string ⟨(F.set a0 x).toArray⟩) ((C w4.drew).setCell ⟨w4.heap.size, a0, none⟩ (.int .u8 x.toNat)).drew :=
          turned_str (C w4.drew).drew w4.heap.size (cp w4.drew) a0 F x (fun j h => HCC.out w4.drew j h)
        have HB6 : Hid (Below w4.heap.size w4 ((C w4.drew).setCell ⟨w4.heap.size, a0, none⟩ (.int .u8 x.toNat)).drew) := (((Below.refl _ _).drew.trans (HCB.out w4.drew)).setCell (Nat.le_refl _) _).drew
        generalize ((C w4.drew).setCell ⟨w4.heap.size, a0, none⟩ (.int .u8 x.toNat)).drew = w6 at hcv HB6 ⊢
        have hxz : (⟨(F.set a0 x).toArray⟩ : ByteArray).size = F.length := by show (F.set a0 x).toArray.size = _; simp
        go_wp2_with fail
        have HB6w : Hid (Below w.heap.size w w6) := HB4.out.trans (HB6.out.mono HB4.out.size)
        refine Calls.mono (open_any ⟨(F.set a0 x).toArray⟩ A w6 (HSS.out w6 HB6w.out).errs (by rw [hxz]; omega)) ?_
        rw [dl_str]
        have hop : Sk.openR (F.set a0 x) = (0, bs, t.data.toList.length) := by rw [HF.out, HBS.out]; exact HFX.out.openR
        rw [hop]
        rintro e w7 ⟨hb7, _, r0, _⟩
        obtain ⟨g2, v2, rfl, hpf2⟩ := r0 rfl
        have HB7 : Hid (Below w4.heap.size w4 w7) := HB6.out.trans (hb7.mono HB6.out.size)
        have HP7 : Hid (PFile w7 w6.heap.size g2 ⟨(F.set a0 x).toArray⟩ v2 bs t.data.toList.length) := hpf2
        clear hb7 r0 hpf2 hop hcv e0 f0 z0 u1 u2 u3 u4 u5 u6 u7 hai
        obtain ⟨nx, hnx⟩ : ∃ nx, nx = Sk.nextF evy k := ⟨_, rfl⟩
        obtain ⟨kq, hkq⟩ : ∃ kq, kq = k / evy := ⟨_, rfl⟩
        have hgt : k < nx := by rw [hnx]; exact Sk.nextF_gt evy k hev1
        have HNX : Hid (nx = Sk.nextF evy k) := hnx
        have hdv : (k : Int) / (evy : Int) = (kq : Int) := by rw [hkq, Int.natCast_ediv]
        have hml : ((kq : Int) + 1) * (evy : Int) = (nx : Int) := by rw [hnx, Sk.nextF, ← hkq]; simp
        have hnle : nx ≤ 600 := by
          have h1 := Nat.div_mul_le_self k evy
          rw [hnx, Sk.nextF, Nat.add_mul]
          omega
        have hkqle : kq ≤ 600 := by rw [hkq]; exact Nat.le_trans (Nat.div_le_self _ _) (by omega)
        have hne0 : ((evy : Int) == 0) = false := by rw [beq_eq_false_iff_ne]; omega
        clear hnx hkq
        go_wp2_with fail
        have hbad : Sk.badL (F.set a0 x) bs bs.length = (List.range (min bs.length nx - k)).map (fun m => k + m) := by
          rw [HF.out, HBS.out, HNX.out]
          exact HFX.out.badL _ (Nat.le_refl _)
        have HB7w : Hid (Below w.heap.size w w7) := HB4.out.trans (HB7.out.mono HB4.out.size)
        have HGD : Hid (Sk.Good (⟨(F.set a0 x).toArray⟩ : ByteArray).data.toList bs t.data.toList.length) := by
          show Sk.Good _ _ _
          rw [dl_str, HF.out, HBS.out]
          exact HFX.out.good
        refine Calls.mono (check_any w6.heap.size g2 ⟨(F.set a0 x).toArray⟩ v2 bs t.data.toList.length A w7 HP7.out HGD.out (by rw [hxz]; omega) (by omega) (HSS.out w7 HB7w.out) (HT.out.below HB7w.out)) ?_
        rw [dl_str, hbad, List.length_map, List.length_range, List.map_map]
        rintro e w8 ⟨l, rfl, hl, hg8⟩
        obtain ⟨nb, hnb⟩ : ∃ nb, nb = min bs.length nx - k := ⟨_, rfl⟩
        rw [← hnb] at hl
        have hnb2 : nb ≤ 504 := by omega
        have HNB : Hid (nb = min bs.length nx - k) := hnb
        have HB8 : Hid (Below w4.heap.size w4 w8) := HB7.out.trans ((gr_nil_below hg8).mono HB7.out.size)
        have HP8 : Hid (PFile w8 w6.heap.size g2 ⟨(F.set a0 x).toArray⟩ v2 bs t.data.toList.length) := HP7.out.below (gr_nil_below hg8)
        have HL8 : Hid (Rw w8 1 l nb ((List.range nb).map ((fun k : Nat => Value.int .i64 k) ∘ fun m => k + m))) := hl
        obtain ⟨lo2, lcap2, el⟩ := hl.form
        subst el
        clear hl hg8 hbad hdv hml hne0 hxz hnb
        go_upto_region 34 with fail
        refine local_C rfl A w w4 w8 t bl evy k a0 w6.heap.size g2 a lcap nx nb lcap2 x v2 lo2 F bs HSS.out HT.out HB4.out HB8.out HL4.out HF.out HBS.out HTL.out HLK.out HFX.out HP8.out HL8.out HNB.out HNX.out hgt hnle hk hbl ht2 hnb2 ?hk
        case hk => assumption
end Go.Proofs.YtafkpmjifgohcaaDoor
