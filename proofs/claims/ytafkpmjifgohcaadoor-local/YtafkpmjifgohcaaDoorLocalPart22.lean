/- The law Local from the second loop on: each block is read, the bad ones are told. -/
import Derived.Test.YtafkpmjifgohcaaDoorLocalPart21
namespace Go.Proofs.YtafkpmjifgohcaaDoor
open Go.RowKit

/-- What stands from a region on, in a function's text. -/
def fromR (n : Nat) : Code → Option Code
  | .seq (.region k o b) r => cond (Nat.beq k n) (some (.seq (.region k o b) r)) (fromR n r)
  | .seq _ r => fromR n r
  | _ => none

set_option maxRecDepth 100000 in
set_option maxHeartbeats 8000000 in
theorem local_C {reg rest : Code} {K : Act → World → Prop} (hcode : Tryd.f7.body.bind (fromR 34) = some (.seq reg rest)) {sl1 sl2 sl3 sl4 sl5 sl6 sl7 sl8 sl9 sl10 sl11 sl12 sl13 sl14 sl15 sl17 sl18 sl19 sl21 sl22 sl23 sl25 sl28 sl29 sl30 sl31 sl32 sl33 sl34 sl35 sl36 sl37 sl38 sl39 sl40 sl41 sl42 sl43 sl44 sl45 sl46 sl47 sl48 sl49 sl50 sl51 sl52 sl53 sl54 sl55 sl56 sl57 sl58 sl59 sl60 sl61 sl62 sl63 sl64 sl65 sl66 sl67 sl68 sl69 sl70 sl71 sl72 sl73 sl74 sl75 sl76 sl77 sl78 sl79 sl80 sl81 sl82 sl83 sl84 sl85 sl86 sl87 sl88 sl89 sl90 sl91 sl92 sl93 sl94 sl95 sl96 sl97 sl98 sl99 sl100 sl101 sl102 sl103 sl104 sl105 sl106 sl107 sl108 sl109 sl110 sl111 sl112 sl113 sl114 sl115 sl116 sl117 sl118 sl119 sl120 sl121 sl122 sl123 sl124 sl125 sl126 sl127 sl128 sl129 sl130 sl131 sl132 sl133 sl134 sl135 sl136 sl137 sl138 sl139 sl140 sl141 sl142 sl143 sl144 sl145 sl146 sl147 sl148 sl149 sl150 sl151 sl152 sl153 sl154 sl155 sl156 sl157 sl158 sl159 sl160 sl161 sl162 sl163 sl164 sl165 sl166 sl167 sl168 sl169 sl170 sl171 sl172 sl173 sl174 sl175 sl176 sl177 sl178 sl179 sl180 sl181 sl182 sl183 sl184 sl185 sl186 sl187 sl188 sl189 sl190 sl191 sl192 sl193 sl194 sl195 sl196 sl197 sl198 sl199 sl200 sl201 sl202 sl203 sl204 sl205 sl206 sl207 sl208 sl209 sl210 sl211 sl212 sl213 sl214 sl215 sl216 sl217 sl218 sl219 sl220 sl221 sl222 sl223 sl224 sl225 sl226 sl227 sl228 sl229 sl230 sl231 sl232 sl233 sl234 sl235 sl236 sl237 sl238 sl239 sl240 sl241 sl242 sl243 sl244 sl245 sl246 sl247 sl248 sl249 sl250 sl251 sl252 sl253 sl254 sl255 sl256 sl257 sl258 sl259 sl260 sl261 sl262 sl263 sl264 sl265 sl266 sl267 sl268 sl269 sl270 sl271 sl272 sl273 sl274 sl275 sl276 sl277 sl278 sl279 sl280 sl281 sl282 sl283 sl284 sl285 sl286 sl287 sl288 sl289 sl290 sl291 sl292 sl293 sl294 sl295 sl296 sl297 sl298 sl299 sl300 sl301 sl302 sl303 sl304 sl305 sl306 sl307 sl308 sl309 sl310 : Value} (A : Nat → Addr) (w w4 w8 : World) (t : ByteArray) (bl evy k a0 B6 g2 a lcap nx nb lcap2 : Nat) (x : UInt8) (v2 : Value) (lo2 : Option Addr) (F : List UInt8) (bs : List Sk.Blk)
    (hSS : ∀ W, Below w.heap.size w W → SentB W A W.heap.size) (hT : ErrT w) (hB4 : Below w.heap.size w w4) (hB8 : Below w4.heap.size w4 w8) (hL4 : Rw w4 4 (.slice (some ⟨a, 0, none⟩) bs.length lcap) bs.length (Sk.cellsOf bs))
    (hF : F = Sk.fileOf t.data.toList bl evy) (hBS : bs = Sk.fblk t.data.toList bl evy t.data.toList.length 0 0 3) (hTL : t.data.toList.length = t.size) (hLK : Sk.Looks t.size bl F.length bs) (hFX : Sk.Flip t.data.toList bl evy k a0 x)
    (hP8 : PFile w8 B6 g2 ⟨(F.set a0 x).toArray⟩ v2 bs t.data.toList.length) (hL8 : Rw w8 1 (.slice lo2 nb lcap2) nb ((List.range nb).map ((fun k : Nat => Value.int .i64 k) ∘ fun m => k + m))) (hNB : nb = min bs.length nx - k) (hNX : nx = Sk.nextF evy k)
    (hgt : k < nx) (hnle : nx ≤ 600) (hk : k < bs.length) (hbl : bs.length ≤ 504) (ht2 : t.size ≤ 504) (hnb2 : nb ≤ 504)
    (hK : ∀ a w', rest.wp Tryd.prog (bodyPost Tryd.prog Tryd.f7 (fun e w' => e = .returned (.bool true) ∧ Below w.heap.size w w')) a w' → K a w') :
    reg.wp Tryd.prog (Exit.then K (bodyPost Tryd.prog Tryd.f7 (fun e w' => e = .returned (.bool true) ∧ Below w.heap.size w w'))) { tmps := #[.string t, sl1, sl2, sl3, sl4, sl5, sl6, sl7, sl8, sl9, sl10, sl11, sl12, sl13, sl14, sl15, .slice (some ⟨a, 0, none⟩) bs.length lcap, sl17, sl18, sl19, .int .i64 k, sl21, sl22, sl23, .pointer (some ⟨g2, 0, none⟩), sl25, .int .i64 nx, .slice lo2 nb lcap2, sl28, sl29, sl30, sl31, sl32, sl33, sl34, sl35, sl36, sl37, sl38, sl39, sl40, sl41, sl42, sl43, sl44, sl45, sl46, sl47, sl48, sl49, sl50, sl51, sl52, sl53, sl54, sl55, sl56, sl57, sl58, sl59, sl60, sl61, sl62, sl63, sl64, sl65, sl66, sl67, sl68, sl69, sl70, sl71, sl72, sl73, sl74, sl75, sl76, sl77, sl78, sl79, sl80, sl81, sl82, sl83, sl84, sl85, sl86, sl87, sl88, sl89, sl90, sl91, sl92, sl93, sl94, sl95, sl96, sl97, sl98, sl99, sl100, sl101, sl102, sl103, sl104, sl105, sl106, sl107, sl108, sl109, sl110, sl111, sl112, sl113, sl114, sl115, sl116, sl117, sl118, sl119, sl120, sl121, sl122, sl123, sl124, sl125, sl126, sl127, sl128, sl129, sl130, sl131, sl132, sl133, sl134, sl135, sl136, sl137, sl138, sl139, sl140, sl141, sl142, sl143, sl144, sl145, sl146, sl147, sl148, sl149, sl150, sl151, sl152, sl153, sl154, sl155, sl156, sl157, sl158, sl159, sl160, sl161, sl162, sl163, sl164, sl165, sl166, sl167, sl168, sl169, sl170, sl171, sl172, sl173, sl174, sl175, sl176, sl177, sl178, sl179, sl180, sl181, sl182, sl183, sl184, sl185, sl186, sl187, sl188, sl189, sl190, sl191, sl192, sl193, sl194, sl195, sl196, sl197, sl198, sl199, sl200, sl201, sl202, sl203, sl204, sl205, sl206, sl207, sl208, sl209, sl210, sl211, sl212, sl213, sl214, sl215, sl216, sl217, sl218, sl219, sl220, sl221, sl222, sl223, sl224, sl225, sl226, sl227, sl228, sl229, sl230, sl231, sl232, sl233, sl234, sl235, sl236, sl237, sl238, sl239, sl240, sl241, sl242, sl243, sl244, sl245, sl246, sl247, sl248, sl249, sl250, sl251, sl252, sl253, sl254, sl255, sl256, sl257, sl258, sl259, sl260, sl261, sl262, sl263, sl264, sl265, sl266, sl267, sl268, sl269, sl270, sl271, sl272, sl273, sl274, sl275, sl276, sl277, sl278, sl279, sl280, sl281, sl282, sl283, sl284, sl285, sl286, sl287, sl288, sl289, sl290, sl291, sl292, sl293, sl294, sl295, sl296, sl297, sl298, sl299, sl300, sl301, sl302, sl303, sl304, sl305, sl306, sl307, sl308, sl309, sl310], defers := [] } w8 := by
  have e0 : Tryd.f7.body.bind (fromR 34) = some _ := rfl
  have e1 := Option.some.inj (e0.symm.trans hcode)
  injection e1 with e2 e3
  subst e2
  subst e3
  clear e0 hcode
  have HSS : Hid (∀ W, Below w.heap.size w W → SentB W A W.heap.size) := hSS
  have HT : Hid (ErrT w) := hT
  have HB4 : Hid (Below w.heap.size w w4) := hB4
  have HB8 : Hid (Below w4.heap.size w4 w8) := hB8
  have HL4 : Hid (Rw w4 4 (.slice (some ⟨a, 0, none⟩) bs.length lcap) bs.length (Sk.cellsOf bs)) := hL4
  have HF : Hid (F = Sk.fileOf t.data.toList bl evy) := hF
  have HBS : Hid (bs = Sk.fblk t.data.toList bl evy t.data.toList.length 0 0 3) := hBS
  have HTL : Hid (t.data.toList.length = t.size) := hTL
  have HLK : Hid (Sk.Looks t.size bl F.length bs) := hLK
  have HFX : Hid (Sk.Flip t.data.toList bl evy k a0 x) := hFX
  have HP8 : Hid (PFile w8 B6 g2 ⟨(F.set a0 x).toArray⟩ v2 bs t.data.toList.length) := hP8
  have HL8 : Hid (Rw w8 1 (.slice lo2 nb lcap2) nb ((List.range nb).map ((fun k : Nat => Value.int .i64 k) ∘ fun m => k + m))) := hL8
  have HNB : Hid (nb = min bs.length nx - k) := hNB
  have HNX : Hid (nx = Sk.nextF evy k) := hNX
  clear hSS hT hB4 hB8 hL4 hF hBS hTL hLK hFX hP8 hL8 hNB hNX
  go_wp2_with fail
  go_loopw [22, 28] (fun y i wr => ∃ j : Nat, j ≤ bs.length ∧ i = .int .i64 j ∧ y = .int .i64 ((min j nx - k : Nat) : Int) ∧ Below w8.heap.size w8 wr) (fun _ i _ => bs.length - (intOf i).toNat)
  case atStart => exact ⟨0, Nat.zero_le _, rfl, by rw [show min 0 nx - k = 0 by omega]; rfl, Below.refl _ _⟩
  case round =>
    obtain ⟨j, hj, rfl, rfl, hbr⟩ := hrel
    have HBr : Hid (Below w8.heap.size w8 wr) := hbr
    have HBr4 : Hid (Below w4.heap.size w4 wr) := HB8.out.trans (hbr.mono HB8.out.size)
    have HBrw : Hid (Below w.heap.size w wr) := HB4.out.trans (HBr4.out.mono HB4.out.size)
    have HPr : Hid (PFile wr B6 g2 ⟨((Sk.fileOf t.data.toList bl evy).set a0 x).toArray⟩ v2 (Sk.fblk t.data.toList bl evy t.data.toList.length 0 0 3) t.data.toList.length) := by
      have := HP8.out.below hbr
      rw [HF.out, HBS.out] at this
      exact this
    clear hbr
    by_cases hjl : j < bs.length
    · obtain ⟨_, ea, ha⟩ := (HL4.out.below HBr4.out).blk j hjl
      cases ea
      have x0 := ha 0 (by decide)
      have x1 := ha 1 (by decide)
      simp [Sk.Blk.cells] at x0 x1
      clear ha
      have hjb := hjl
      rw [HBS.out] at hjb
      have jj : (j : Int) < (bs.length : Int) := by omega
      obtain ⟨P, hP⟩ : ∃ P, P = (Sk.bk bs j).frm := ⟨_, rfl⟩
      obtain ⟨Z, hZ⟩ : ∃ Z, Z = (Sk.bk bs j).size := ⟨_, rfl⟩
      have HPE : Hid ((Sk.bk (Sk.fblk t.data.toList bl evy t.data.toList.length 0 0 3) j).frm = P) := by show _ = _; rw [hP, HBS.out]
      have HZE : Hid ((Sk.bk (Sk.fblk t.data.toList bl evy t.data.toList.length 0 0 3) j).size = Z) := by show _ = _; rw [hZ, HBS.out]
      rw [← hP] at x0
      rw [← hZ] at x1
      have hpz : P + Z ≤ t.size := by
        have h1 := HLK.out.frm j hjl
        have h2 := HLK.out.siz j hjl
        have h3 := HLK.out.lt j hjl
        omega
      clear hP hZ
      by_cases hc : j < k ∨ nx ≤ j
      · have HRD : Hid (∀ W, Below wr.heap.size wr W → Calls Tryd.prog 21 #[.pointer (some ⟨g2, 0, none⟩), .int .i64 P, .int .i64 Z] W fun e w' => e = .returned (.tuple #[.string ⟨(Sk.sub t.data.toList P (P + Z)).toArray⟩, .nilIface]) ∧ Below wr.heap.size wr w') := fun W hW => by
          have hWw := HBrw.out.trans (hW.mono HBrw.out.size)
          refine (flipRead_good HFX.out B6 g2 v2 j A W (HPr.out.below hW) (HSS.out W hWw) hjb (by rw [← HNX.out]; exact hc) P Z HPE.out HZE.out).mono ?_
          rintro e w' ⟨rfl, hb⟩
          exact ⟨rfl, hW.trans (hb.mono hW.size)⟩
        have hex : t.extract P (P + Z) = ⟨(Sk.sub t.data.toList P (P + Z)).toArray⟩ := extract_sub t P (P + Z)
        have hpzi : (P : Int) + (Z : Int) ≤ (t.size : Int) := by omega
        go_wp2_with fail
        refine (fun hrest : Hid (∀ w', Below wr.heap.size wr w' → (?P12 : World → Prop) w') => ?main12) ?rest12
        case main12 =>
          go_region_with (go_at_call 21; refine Calls.mono (HRD.out _ (below_drewN (Below.refl _ _) _)) ?_; rintro e w' ⟨rfl, hb'⟩)
          all_goals exact hrest.out w' hb'
        case rest12 =>
          unfold Hid
          intro w9 hb9
          have HB9 : Hid (Below w8.heap.size w8 w9) := HBr.out.trans (hb9.mono HBr.out.size)
          have x0' := (hb9.cell (p := ⟨a, j * 4, none⟩) (cell_lt x0)).trans x0
          have x1' := (hb9.cell (p := ⟨a, j * 4 + 1, none⟩) (cell_lt x1)).trans x1
          clear hb9 x0 x1
          have hcc : (j : Int) < (k : Int) ∨ ((k : Int) ≤ (j : Int) ∧ (nx : Int) ≤ (j : Int)) := by omega
          clear hc
          rcases hcc with hc1 | ⟨hc1, hc2⟩
          all_goals
            go_wp2_with fail
            go_quiet (fail)
            go_wp2
            go_roundw
            case rel => exact ⟨j + 1, by omega, by go_num, by rw [show min (j + 1) nx - k = min j nx - k by omega], below_drewN HB9.out _⟩
            case measure => simp [intOf]; omega
      · have HRD : Hid (∀ W, Below wr.heap.size wr W → Calls Tryd.prog 21 #[.pointer (some ⟨g2, 0, none⟩), .int .i64 P, .int .i64 Z] W fun e w' => ∃ q, e = .returned (.tuple #[.string ⟨#[]⟩, .iface 151 (.pointer (some ⟨q, 0, none⟩))]) ∧ BadErr w' W.heap.size (.iface 151 (.pointer (some ⟨q, 0, none⟩))) k (A 5) ∧ Below wr.heap.size wr w') := fun W hW => by
          have hWw := HBrw.out.trans (hW.mono HBrw.out.size)
          refine (flipRead_bad HFX.out B6 g2 v2 j A W (HPr.out.below hW) (HSS.out W hWw) hjb (by rw [← HNX.out]; omega) P Z HPE.out HZE.out).mono ?_
          rintro e w' ⟨v, rfl, hbad, hb⟩
          have hbad' := hbad
          obtain ⟨q, p, f, hv, _⟩ := hbad
          subst hv
          exact ⟨q, rfl, hbad', hW.trans (hb.mono hW.size)⟩
        have hc1 : k ≤ j := by omega
        have hc2 : j < nx := by omega
        obtain ⟨r, hr⟩ : ∃ r, r = j - k := ⟨_, rfl⟩
        rw [show min j nx - k = r by omega]
        have HRJ : Hid (r = j - k) := hr
        have hrn : (r : Int) < (nb : Int) := by have := HNB.out; omega
        clear hr hc
        go_wp2_with fail
        refine (fun hrest : Hid (∀ q w', (∃ W : World, BadErr w' W.heap.size (.iface 151 (.pointer (some ⟨q, 0, none⟩))) k (A 5)) ∧ Below wr.heap.size wr w' → (?P13 : Nat → World → Prop) q w') => ?main13) ?rest13
        case main13 =>
          go_region_with (go_at_call 21; refine Calls.mono (HRD.out _ (below_drewN (Below.refl _ _) _)) ?_; rintro e w' ⟨q, rfl, hbd, hb'⟩)
          all_goals exact hrest.out q w' ⟨⟨_, hbd⟩, hb'⟩
        case rest13 =>
          unfold Hid
          rintro q w9 ⟨⟨W9, hbd⟩, hb9⟩
          have HBD : Hid (BadErr w9 W9.heap.size (.iface 151 (.pointer (some ⟨q, 0, none⟩))) k (A 5)) := hbd
          have HB9 : Hid (Below w8.heap.size w8 w9) := HBr.out.trans (hb9.mono HBr.out.size)
          have HB9w : Hid (Below w.heap.size w w9) := HBrw.out.trans (hb9.mono HBrw.out.size)
          clear hb9 hbd x0 x1
          go_wp2_with fail
          refine Calls.mono (damage_bad W9.heap.size k A _ w9 HBD.out (HSS.out w9 HB9w.out) (HT.out.below HB9w.out)) ?_
          rintro e w10 ⟨rfl, hb10⟩
          have HB10 : Hid (Below w8.heap.size w8 w10) := HB9.out.trans (hb10.mono HB9.out.size)
          clear hb10
          have hl10 := HL8.out.below HB10.out
          obtain ⟨a2, rfl⟩ := hl10.some_of (by omega)
          have y0 : w10.cell? ⟨a2, r, none⟩ = some (.int .i64 (j : Int)) := by
            rw [hl10.cell r (by simp; omega)]
            simp
            have := HRJ.out
            omega
          clear hl10
          go_wp2
          go_roundw
          case rel => exact ⟨j + 1, by omega, by go_num, by rw [show min (j + 1) nx - k = r + 1 by have := HRJ.out; omega]; go_num, HB10.out⟩
          case measure => simp [intOf]; omega
    · obtain rfl : j = bs.length := by omega
      have HAL : Hid (∀ n : Nat, t.data.toList.length = n → Calls Tryd.prog 21 #[.pointer (some ⟨g2, 0, none⟩), .int .i64 0, .int .i64 n] wr fun e w' => ∃ v, e = .returned (.tuple #[.string ⟨#[]⟩, v]) ∧ BadErr w' wr.heap.size v k (A 5) ∧ Below wr.heap.size wr w') := fun n hn => flipRead_all HFX.out B6 g2 v2 A wr HPr.out (HSS.out wr HBrw.out) n hn
      rw [show min bs.length nx - k = nb from HNB.out.symm]
      go_wp2_with fail
      refine Calls.mono (HAL.out t.size HTL.out) ?_
      rintro e w9 ⟨v9, rfl, hbd, hb9⟩
      have HBD : Hid (BadErr w9 wr.heap.size v9 k (A 5)) := hbd
      have HB9w : Hid (Below w.heap.size w w9) := HBrw.out.trans (hb9.mono HBrw.out.size)
      clear hbd hb9
      go_wp2_with fail
      refine Calls.mono (damage_bad wr.heap.size k A v9 w9 HBD.out (HSS.out w9 HB9w.out) (HT.out.below HB9w.out)) ?_
      rintro e w10 ⟨rfl, hb10⟩
      have HB10w : Hid (Below w.heap.size w w10) := HB9w.out.trans (hb10.mono HB9w.out.size)
      clear hb10
      go_wp2
      go_ret
      exact ⟨by simp, HB10w.out⟩
end Go.Proofs.YtafkpmjifgohcaaDoor
