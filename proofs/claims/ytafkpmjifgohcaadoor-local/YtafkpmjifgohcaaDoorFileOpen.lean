/- The program's readIndex and Open, walked. -/
import Derived.Test.YtafkpmjifgohcaaDoorIdxAdd
import Derived.Test.YtafkpmjifgohcaaDoorPureRead2
namespace Go.Proofs.YtafkpmjifgohcaaDoor
open Go.RowKit

theorem extract_all_size (s : ByteArray) (p : Nat) (_h : p ≤ s.size) : (s.extract p s.size).size = s.size - p := by
  rw [ByteArray.size_extract]; omega

theorem hdr_at (s : ByteArray) (p : Nat) (h : p + 9 ≤ s.size) :
    (Sk.gt (s.extract p s.size).data.toList 0).toNat = (Sk.gt s.data.toList p).toNat ∧ Sk.numAt (s.extract p s.size).data.toList 1 2 = Sk.numAt s.data.toList (p + 1) 2 ∧ Sk.numAt (s.extract p s.size).data.toList 3 2 = Sk.numAt s.data.toList (p + 3) 2 ∧ Sk.numAt (s.extract p s.size).data.toList 5 4 = Sk.numAt s.data.toList (p + 5) 4 :=
  ⟨by rw [gt_extract s p s.size 0 (by omega)]; rfl, numAt_extract s p s.size 2 1 (by omega), numAt_extract s p s.size 2 3 (by omega), numAt_extract s p s.size 4 5 (by omega)⟩

theorem idx_zero {w : World} {g : Nat} (h : w.heap[g]? = some (.cells #[.slice none 0 0, .int .i64 0] 39 (0, 0))) : w.cell? ⟨g, 0, none⟩ = some (.slice none 0 0) ∧ w.cell? ⟨g, 1, none⟩ = some (.int .i64 0) ∧ w.frozen? ⟨g, 0, none⟩ = false ∧ w.frozen? ⟨g, 1, none⟩ = false :=
  ⟨by simp [World.cell?, h], by simp [World.cell?, h], by simp [World.frozen?, h], by simp [World.frozen?, h]⟩

set_option maxRecDepth 100000 in
set_option maxHeartbeats 4000000 in
theorem readIndex_any (s : ByteArray) (a2 a3 : Addr) (w : World) (hs : s.size ≤ 65536) (h3 : 3 ≤ s.size)
    (k2 : w.cell? ⟨2, 0, none⟩ = some (.iface 170 (.pointer (some a2)))) (k3 : w.cell? ⟨3, 0, none⟩ = some (.iface 170 (.pointer (some a3)))) :
    Calls Tryd.prog 36 #[.string s] w fun e w' => Below w.heap.size w w' ∧
      ((Sk.openN s.data.toList s.size 3 [] 0).1 = 0 → ∃ v, e = .returned (.tuple #[.agg #[v, .int .i64 (Sk.openN s.data.toList s.size 3 [] 0).2.2], .nilIface]) ∧ Rw w' 6 v (Sk.openN s.data.toList s.size 3 [] 0).2.1.length (Sk.cellsE s.data.toList (Sk.openN s.data.toList s.size 3 [] 0).2.1) ∧ ∀ k, v.ownBlock = some k → w.heap.size ≤ k) ∧
      ((Sk.openN s.data.toList s.size 3 [] 0).1 = 3 → e = .returned (.tuple #[.agg #[.slice none 0 0, .int .i64 0], .iface 170 (.pointer (some a2))])) ∧
      ((Sk.openN s.data.toList s.size 3 [] 0).1 = 4 → e = .returned (.tuple #[.agg #[.slice none 0 0, .int .i64 0], .iface 170 (.pointer (some a3))])) ∧
      ((Sk.openN s.data.toList s.size 3 [] 0).1 = 0 ∨ (Sk.openN s.data.toList s.size 3 [] 0).1 = 3 ∨ (Sk.openN s.data.toList s.size 3 [] 0).1 = 4) := by
  have hlen : s.data.toList.length = s.size := Array.length_toList
  have HL : Hid (s.data.toList.length = s.size) := hlen
  clear hlen
  have l2 := cell_lt k2
  have l3 := cell_lt k3
  go_enter Tryd.func36, Tryd.ntmps36
  go_wp2
  have HI0 : Hid (IFile ((w.alloc (.cells #[.slice none 0 0, .int .i64 0] 39)).alloc (.cells #[.slice none 0 0, .int .i64 0] 39)) (w.heap.size + 1) (w.heap.size + 1) s.data.toList (.slice none 0 0) [] 0) := by
    refine ⟨?_, Nat.le_refl _, Rw.nil _ _, fun k hk => by cases hk⟩
    show ((w.heap.push _).push _)[w.heap.size + 1]? = _
    rw [Array.getElem?_push, if_pos (by simp)]
    rfl
  go_loopw [5] (fun i wr => ∃ f p d : Nat, ∃ v bs, i = .int .i64 p ∧ p ≤ s.size ∧ d ≤ 20000 ∧ bs.length ≤ d ∧ s.size ≤ p + f ∧ IFile wr (w.heap.size + 1) (w.heap.size + 1) s.data.toList v bs d ∧ wr.heap[w.heap.size]? = some (.cells #[.slice none 0 0, .int .i64 0] 39 (0, 0)) ∧ Below w.heap.size w wr ∧ Sk.openN s.data.toList f p bs d = Sk.openN s.data.toList s.size 3 [] 0) (fun i _ => s.size - (intOf i).toNat)
  case atStart =>
    refine ⟨s.size, 3, 0, .slice none 0 0, [], rfl, by omega, by omega, by simp, by omega, HI0.out, ?_, ((Below.refl _ _).alloc (Nat.le_refl _) _).alloc (by simp) _, rfl⟩
    show ((w.heap.push _).push _)[w.heap.size]? = _
    simp [Array.getElem?_push]
  case round =>
    obtain ⟨f, p, d, v, bs, rfl, hp, hd, hbd, hf, hR, hres, hbel, hinv⟩ := hrel
    clear HI0
    have HI : Hid (Sk.openN s.data.toList f p bs d = Sk.openN s.data.toList s.size 3 [] 0) := hinv
    have HR : Hid (IFile wr (w.heap.size + 1) (w.heap.size + 1) s.data.toList v bs d) := hR
    have HB : Hid (Below w.heap.size w wr) := hbel
    have HRES : Hid (wr.heap[w.heap.size]? = some (.cells #[.slice none 0 0, .int .i64 0] 39 (0, 0))) := hres
    have hsz := hR.lt
    clear hinv hR hbel hres
    have hwz : w.heap.size ≤ wr.heap.size := HB.out.size
    by_cases hlt : p < s.size
    · by_cases h9 : p + 9 ≤ s.size
      · obtain ⟨q1, q2, q3, q4⟩ := hdr_at s p h9
        obtain ⟨n, hn⟩ : ∃ n, n = Sk.numAt s.data.toList (p + 1) 2 := ⟨_, rfl⟩
        obtain ⟨m, hm⟩ : ∃ n, n = Sk.numAt s.data.toList (p + 3) 2 := ⟨_, rfl⟩
        obtain ⟨x, hx⟩ : ∃ n, n = Sk.numAt s.data.toList (p + 5) 4 := ⟨_, rfl⟩
        obtain ⟨c, hc⟩ : ∃ n, n = (Sk.gt s.data.toList p).toNat := ⟨_, rfl⟩
        rw [← hc] at q1
        rw [← hn] at q2
        rw [← hm] at q3
        rw [← hx] at q4
        have HN : Hid (Sk.numAt s.data.toList (p + 1) 2 = n) := hn.symm
        have HM : Hid (Sk.numAt s.data.toList (p + 3) 2 = m) := hm.symm
        have HX : Hid (Sk.numAt s.data.toList (p + 5) 4 = x) := hx.symm
        have HC : Hid ((Sk.gt s.data.toList p).toNat = c) := hc.symm
        have hm2 : m ≤ 70000 := by have : m < 65536 := by rw [hm]; exact Sk.numAt_lt _ 2 _
                                   omega
        clear hn hm hx hc
        have HQ : Hid ((Sk.gt (s.extract p s.size).data.toList 0).toNat = c ∧ Sk.numAt (s.extract p s.size).data.toList 1 2 = n ∧ Sk.numAt (s.extract p s.size).data.toList 3 2 = m ∧ Sk.numAt (s.extract p s.size).data.toList 5 4 = x) := ⟨q1, q2, q3, q4⟩
        clear q1 q2 q3 q4
        have hsx : (s.extract p s.size).size = s.size - p := by rw [ByteArray.size_extract]; omega
        have HSX : Hid ((s.extract p s.size).size = s.size - p) := hsx
        clear hsx
        obtain ⟨f, rfl⟩ : ∃ j, f = j + 1 := ⟨f - 1, by omega⟩
        by_cases hbad : 1 < c ∨ n < 1 ∨ 1024 < n
        · have HI2 : Hid (Sk.openN s.data.toList s.size 3 [] 0 = (3, [], 0)) := by
            have := HI.out
            have hb : Sk.badHdr s.data.toList p bs d = true := by
              unfold Sk.badHdr
              rw [HN.out, HC.out]
              rcases hbad with h | h | h <;> simp [h]
            rw [Sk.openN, if_pos (by rw [HL.out]; exact hlt), if_neg (by rw [HL.out]; omega), if_pos hb] at this
            exact this.symm
          clear HI
          have HBAD : Hid (1 < c ∨ n < 1 ∨ 1024 < n) := hbad
          clear hbad
          go_wp2_with fail
          refine (hdrRead_long (s.extract p s.size) a2 c n m x wr ((HB.out.cell (p := ⟨2, 0, none⟩) l2).trans k2) (by rw [HSX.out]; omega) (by rw [HSX.out]; omega) HQ.out.1 HQ.out.2.1 HQ.out.2.2.1 HQ.out.2.2.2).mono ?_
          rintro e w1 ⟨hb1, he, _⟩
          obtain rfl := he HBAD.out
          have HB1 : Hid (Below w.heap.size w w1) := HB.out.trans (hb1.mono hwz)
          have hz1 : w.heap.size + 1 < w1.heap.size := by have := hb1.size; omega
          have hz0 : w.heap.size < w1.heap.size := by omega
          obtain ⟨r0, r1, f0, f1⟩ := idx_zero ((hb1.block w.heap.size (by omega)).trans HRES.out)
          clear hb1 he
          go_wp2
          all_goals (try simp only [Exit.inBlock, Exit.then])
          all_goals refine bodyPost_ret (v := .tuple #[.agg #[.slice none 0 0, .int .i64 0], .iface 170 (.pointer (some a2))]) ?_ rfl ⟨?_, (fun h => by rw [HI2.out] at h; cases h), (fun h => rfl), (fun h => by rw [HI2.out] at h; cases h), by rw [HI2.out]; exact .inr (.inl rfl)⟩
          all_goals first
            | (rw [results_cell_tmp rfl]; go_simp; done)
            | (repeat' (first | exact HB1.out | refine Below.drew ?_ | refine Below.alloc ?_ (by simp; try omega) _ | refine below_set ?_ _ _ _ (by omega)))
        · have hn1 : 1 ≤ n := by omega
          have hn3 : n ≤ 1024 := by omega
          have HBAD : Hid (¬ (1 < c ∨ n < 1 ∨ 1024 < n)) := hbad
          obtain ⟨fr, hfr⟩ : ∃ fr, fr = (c == 1) := ⟨_, rfl⟩
          have HFR : Hid ((c == 1) = fr) := hfr.symm
          have hc1 : c ≤ 1 := by omega
          clear hbad hfr
          go_wp2_with fail
          refine (hdrRead_long (s.extract p s.size) a2 c n m x wr ((HB.out.cell (p := ⟨2, 0, none⟩) l2).trans k2) (by rw [HSX.out]; omega) (by rw [HSX.out]; omega) HQ.out.1 HQ.out.2.1 HQ.out.2.2.1 HQ.out.2.2.2).mono ?_
          rintro e w1 ⟨hb1, _, he⟩
          obtain rfl := he HBAD.out
          rw [HFR.out]
          have HB1 : Hid (Below w.heap.size w w1) := HB.out.trans (hb1.mono hwz)
          have HF1 : Hid (IFile w1 (w.heap.size + 1) (w.heap.size + 1) s.data.toList v bs d) := HR.out.below hb1
          have HRES1 : Hid (w1.heap[w.heap.size]? = some (.cells #[.slice none 0 0, .int .i64 0] 39 (0, 0))) := (hb1.block w.heap.size (by omega)).trans HRES.out
          have hz1 : w.heap.size + 1 < w1.heap.size := by have := hb1.size; omega
          have hz0 : w.heap.size < w1.heap.size := by omega
          have hvo : Hid (∀ k, v.ownBlock = some k → k < w1.heap.size) := fun k hk => by have := HR.out.row.lt k hk; have := hb1.size; omega
          clear hb1 he HR HRES
          go_wp2_with fail
          have hbA : Below w1.heap.size w1 (w1.alloc (.cells #[.bool fr, .int .i64 n, .int .i64 m, .int .u32 x] 105)) := (Below.refl _ _).alloc (Nat.le_refl _) _
          have HBA : Hid (Below w1.heap.size w1 (w1.alloc (.cells #[.bool fr, .int .i64 n, .int .i64 m, .int .u32 x] 105))) := hbA
          clear hbA
          refine (mayFollow_any _ (w.heap.size + 1) (w.heap.size + 1) s.data.toList v bs d fr n m x (HF1.out.below HBA.out) hd hn3).mono ?_
          rintro e w2 ⟨he, hb2⟩
          have hbs : (w1.alloc (.cells #[.bool fr, .int .i64 n, .int .i64 m, .int .u32 x] 105)).heap.size = w1.heap.size + 1 := by simp
          have HB2 : Hid (Below w1.heap.size w1 w2) := HBA.out.trans (hb2.mono (by omega))
          have hz2 : w1.heap.size < w2.heap.size := by have := hb2.size; omega
          have e4 : ∀ j, w2.cell? ⟨w1.heap.size, j, none⟩ = (#[.bool fr, .int .i64 n, .int .i64 m, .int .u32 x] : Array Value)[j]? := fun j => (hb2.cell (p := ⟨w1.heap.size, j, none⟩) (by show w1.heap.size < _; omega)).trans (World.cell?_alloc_new _ _ _ _)
          have y0 := e4 0
          have y1 := e4 1
          have y2 := e4 2
          have y3 := e4 3
          simp at y0 y1 y2 y3
          have HBW : Hid (Below w.heap.size w w2) := HB1.out.trans (HB2.out.mono (by omega))
          have HE4 : Hid (w2.heap[w1.heap.size]? = some (.cells #[.bool fr, .int .i64 n, .int .i64 m, .int .u32 x] 105 (0, 0))) := (hb2.block w1.heap.size (by omega)).trans (heap_alloc_new _ _)
          clear e4 hb2 hbs HBA
          rcases bad_of s.data.toList p n c fr bs d HN.out HC.out HFR.out with ⟨hb, hcase⟩ | ⟨hgood, _, _, _, hdn, hcase⟩
          · have HI2 : Hid (Sk.openN s.data.toList s.size 3 [] 0 = (3, [], 0)) := by
              have := HI.out
              rw [Sk.openN, if_pos (by rw [HL.out]; exact hlt), if_neg (by rw [HL.out]; omega), if_pos hb] at this
              exact this.symm
            have hv : ((fr || !((bs.length : Int) == 0)) && decide ((d : Int) + n ≤ 20000)) = false := by
              rcases hcase with a1 | ⟨a1, a2⟩ | ⟨a1, a2, a3⟩ | ⟨a1, a2, a3, a4, rfl⟩ | ⟨a1, a2, a3, a4, rfl, a6⟩ | ⟨a1, a2, a3, a4, a5⟩
              · omega
              · omega
              · omega
              · simp [a4]
              · rw [decide_eq_false (by omega)]; simp
              · rw [decide_eq_false (by omega)]; simp
            rw [hv] at he
            subst he
            clear hb hcase hv HI
            obtain ⟨r0, r1, f0, f1⟩ := idx_zero ((HB2.out.block w.heap.size (by omega)).trans HRES1.out)
            have j2 := (HBW.out.cell (p := ⟨2, 0, none⟩) l2).trans k2
            have hz3 : w.heap.size < w2.heap.size := by omega
            go_wp2_with fail
            go_region
            all_goals (try go_wp2)
            all_goals (try simp only [Exit.inBlock, Exit.then])
            all_goals refine bodyPost_ret (v := .tuple #[.agg #[.slice none 0 0, .int .i64 0], .iface 170 (.pointer (some a2))]) ?_ rfl ⟨?_, (fun h => by rw [HI2.out] at h; cases h), (fun h => rfl), (fun h => by rw [HI2.out] at h; cases h), by rw [HI2.out]; exact .inr (.inl rfl)⟩
            all_goals first
              | (rw [results_cell_tmp rfl]; go_simp; done)
              | (repeat' (first | exact HBW.out | refine Below.drew ?_ | refine Below.alloc ?_ (by simp; try omega) _ | refine below_set ?_ _ _ _ (by omega)))
          · have hv : ((fr || !((bs.length : Int) == 0)) && decide ((d : Int) + n ≤ 20000)) = true := by
              rcases hcase with ⟨a4, rfl⟩ | a4
              · rw [decide_eq_true hdn]; simp
              · rw [decide_eq_true hdn, a4]; simp
            rw [hv] at he
            subst he
            clear hcase hv
            have hls : bs.length ≤ 20000 := by omega
            have HF2 : Hid (IFile w2 (w.heap.size + 1) (w.heap.size + 1) s.data.toList v bs d) := HF1.out.below HB2.out
            go_wp2_with fail
            refine (add_any w2 (w.heap.size + 1) (w.heap.size + 1) s.data.toList v bs d fr n m x p HF2.out (by omega) hd hn3 hls HM.out HX.out).mono ?_
            rintro e w3 ⟨rfl, v', hf3, hb3, hk3⟩
            have HF3 : Hid (IFile w3 (w.heap.size + 1) (w.heap.size + 1) s.data.toList v' (bs ++ [⟨d, n, p, fr⟩]) (d + n)) := hf3
            have HB3 : Hid (Below w.heap.size w w3) := HBW.out.trans (hb3.mono (by omega))
            have HRES3 : Hid (w3.heap[w.heap.size]? = some (.cells #[.slice none 0 0, .int .i64 0] 39 (0, 0))) := ((hb3.block w.heap.size (by omega)).trans (HB2.out.block w.heap.size (by omega))).trans HRES1.out
            have hm3 : w3.cell? ⟨w1.heap.size, 2, none⟩ = some (.int .i64 m) := by
              have : w3.heap[w1.heap.size]? = some (.cells #[.bool fr, .int .i64 n, .int .i64 m, .int .u32 x] 105 (0, 0)) := (hk3 w1.heap.size hz2 (by omega) (fun e => by have := hvo.out _ e; omega)).trans HE4.out
              simp [World.cell?, this]
            have hz3 : w.heap.size < w3.heap.size := by have := hb3.size; omega
            obtain ⟨r0, r1, f0, f1⟩ := idx_zero HRES3.out
            clear hf3 hb3 hk3 y0 y1 y2 y3
            by_cases h10 : p + 9 + m ≤ s.size
            · have HI2 : Hid (Sk.openN s.data.toList f (p + 9 + m) (bs ++ [⟨d, n, p, fr⟩]) (d + n) = Sk.openN s.data.toList s.size 3 [] 0) := by
                have := HI.out
                rw [Sk.openN, if_pos (by rw [HL.out]; exact hlt), if_neg (by rw [HL.out]; omega), hgood, if_neg (by decide), HM.out, if_neg (by rw [HL.out]; omega), HN.out, HC.out, HFR.out] at this
                exact this
              clear HI hgood
              go_wp2
              go_roundw
              case rel => exact ⟨f, p + 9 + m, d + n, v', _, by go_num, by omega, by omega, by rw [List.length_append]; simp; omega, by omega, HF3.out, HRES3.out, HB3.out, HI2.out⟩
              case measure => simp [intOf]; omega
            · have HI2 : Hid (Sk.openN s.data.toList s.size 3 [] 0 = (4, [], 0)) := by
                have := HI.out
                rw [Sk.openN, if_pos (by rw [HL.out]; exact hlt), if_neg (by rw [HL.out]; omega), hgood, if_neg (by decide), HM.out, if_pos (by rw [HL.out]; omega)] at this
                exact this.symm
              clear HI hgood
              have j3 := (HB3.out.cell (p := ⟨3, 0, none⟩) l3).trans k3
              go_wp2_with fail
              go_region
              all_goals (try go_wp2)
              all_goals (try simp only [Exit.inBlock, Exit.then])
              all_goals refine bodyPost_ret (v := .tuple #[.agg #[.slice none 0 0, .int .i64 0], .iface 170 (.pointer (some a3))]) ?_ rfl ⟨?_, (fun h => by rw [HI2.out] at h; cases h), (fun h => by rw [HI2.out] at h; cases h), (fun h => rfl), by rw [HI2.out]; exact .inr (.inr rfl)⟩
              all_goals first
                | (rw [results_cell_tmp rfl]; go_simp; done)
                | (repeat' (first | exact HB3.out | refine Below.drew ?_ | refine Below.alloc ?_ (by simp; try omega) _ | refine below_set ?_ _ _ _ (by omega)))
      · have HI2 : Hid (Sk.openN s.data.toList s.size 3 [] 0 = (4, [], 0)) := by
          have := HI.out
          obtain ⟨f, rfl⟩ : ∃ j, f = j + 1 := ⟨f - 1, by omega⟩
          rw [Sk.openN, if_pos (by rw [HL.out]; exact hlt), if_pos (by rw [HL.out]; omega)] at this
          exact this.symm
        clear HI
        go_wp2_with fail
        refine (hdrRead_short (s.extract p s.size) a3 wr ((HB.out.cell (p := ⟨3, 0, none⟩) l3).trans k3) (by rw [ByteArray.size_extract]; omega)).mono ?_
        rintro e w1 ⟨rfl, hb1⟩
        have HB1 : Hid (Below w.heap.size w w1) := HB.out.trans (hb1.mono hwz)
        have hz1 : w.heap.size + 1 < w1.heap.size := by have := hb1.size; omega
        have hz0 : w.heap.size < w1.heap.size := by omega
        obtain ⟨r0, r1, f0, f1⟩ := idx_zero ((hb1.block w.heap.size (by omega)).trans HRES.out)
        clear hb1
        go_wp2
        all_goals (try simp only [Exit.inBlock, Exit.then])
        all_goals refine bodyPost_ret (v := .tuple #[.agg #[.slice none 0 0, .int .i64 0], .iface 170 (.pointer (some a3))]) ?_ rfl ⟨?_, (fun h => by rw [HI2.out] at h; cases h), (fun h => by rw [HI2.out] at h; cases h), (fun h => rfl), by rw [HI2.out]; exact .inr (.inr rfl)⟩
        all_goals first
          | (rw [results_cell_tmp rfl]; go_simp; done)
          | (repeat' (first | exact HB1.out | refine Below.drew ?_ | refine Below.alloc ?_ (by simp; try omega) _ | refine below_set ?_ _ _ _ (by omega)))
    · have HI2 : Hid (Sk.openN s.data.toList s.size 3 [] 0 = (0, bs, d)) := by
        have := HI.out
        rw [Sk.openN_end _ _ _ _ _ (by rw [HL.out]; exact hlt)] at this
        exact this.symm
      clear HI
      obtain ⟨vo, vcap, rfl⟩ := HR.out.row.form
      have c0 := HR.out.cell 0
      have c1 := HR.out.cell 1
      simp at c0 c1
      obtain ⟨r0, r1, f0, f1⟩ := idx_zero HRES.out
      have hz1 : w.heap.size < wr.heap.size := by omega
      go_wp2
      (try simp only [Exit.inBlock, Exit.then])
      refine bodyPost_ret (v := .tuple #[.agg #[.slice vo bs.length vcap, .int .i64 d], .nilIface]) ?_ rfl ⟨?_, ?_, ?_, ?_, ?_⟩
      · rw [results_cell_tmp rfl]
        go_simp
      · repeat' (first | exact HB.out | refine below_set ?_ _ _ _ (by omega))
      · rw [HI2.out]
        intro _
        refine ⟨_, rfl, ?_, fun k hk => by have := (HR.out.rowLow k hk).1; omega⟩
        refine HR.out.row.kept (by simp) (fun k hk => ?_)
        have := (HR.out.rowLow k hk).1
        rw [heap_setCell_ne _ _ _ _ (by show k ≠ w.heap.size; omega), heap_setCell_ne _ _ _ _ (by show k ≠ w.heap.size; omega)]
      · rw [HI2.out]; intro h; cases h
      · rw [HI2.out]; intro h; cases h
      · rw [HI2.out]; exact .inl rfl
end Go.Proofs.YtafkpmjifgohcaaDoor
