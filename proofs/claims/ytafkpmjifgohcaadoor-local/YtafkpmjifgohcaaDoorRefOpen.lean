/- The document's Open, walked. -/
import Derived.Test.YtafkpmjifgohcaaDoorRefOpenA
namespace Go.Proofs.YtafkpmjifgohcaaDoor
open Go.RowKit

set_option maxRecDepth 100000 in
set_option maxHeartbeats 4000000 in
theorem refOpen_loop (s : ByteArray) (w : World) (hs : s.size ≤ 65536) (h3 : 3 ≤ s.size) (hm : s.extract 0 3 = ⟨#[83, 75, 49]⟩) :
    Calls Tryd.prog 32 #[.string s] w fun e w' => Below w.heap.size w w' ∧
      ((Sk.openN s.data.toList s.size 3 [] 0).1 = 0 → ∃ g v, e = .returned (.tuple #[.pointer (some ⟨g, 0, none⟩), .int .i64 0]) ∧ RFile w' w.heap.size g s v (Sk.openN s.data.toList s.size 3 [] 0).2.1 (Sk.openN s.data.toList s.size 3 [] 0).2.2) ∧
      ((Sk.openN s.data.toList s.size 3 [] 0).1 ≠ 0 → e = .returned (.tuple #[.pointer none, .int .i64 (Sk.openN s.data.toList s.size 3 [] 0).1])) := by
  have hlen : s.data.toList.length = s.size := Array.length_toList
  have HL : Hid (s.data.toList.length = s.size) := hlen
  clear hlen
  go_enter Tryd.func32, Tryd.ntmps32
  go_wp2
  go_loopw [5] (fun i wr => ∃ f p d : Nat, ∃ v bs, i = .int .i64 p ∧ p ≤ s.size ∧ d ≤ 20000 ∧ bs.length ≤ d ∧ s.size ≤ p + f ∧ RFile wr w.heap.size w.heap.size s v bs d ∧ Below w.heap.size w wr ∧ Sk.openN s.data.toList f p bs d = Sk.openN s.data.toList s.size 3 [] 0) (fun i _ => s.size - (intOf i).toNat)
  case atStart =>
    refine ⟨s.size, 3, 0, .slice none 0 0, [], rfl, by omega, by omega, by simp, by omega, ⟨?_, Nat.le_refl _, Rw.nil _ _, fun k hk => by cases hk⟩, (Below.refl _ _).alloc (Nat.le_refl _) _, rfl⟩
    show (w.heap.push _)[w.heap.size]? = _
    simp
  case round =>
    obtain ⟨f, p, d, v, bs, rfl, hp, hd, hbd, hf, hR, hbel, hinv⟩ := hrel
    obtain ⟨vo, vcap, rfl⟩ := hR.row.form
    have HI : Hid (Sk.openN s.data.toList f p bs d = Sk.openN s.data.toList s.size 3 [] 0) := hinv
    have HR : Hid (RFile wr w.heap.size w.heap.size s (.slice vo bs.length vcap) bs d) := hR
    have HB : Hid (Below w.heap.size w wr) := hbel
    have hsz := hR.lt
    have c0 := hR.cell 0
    have c1 := hR.cell 1
    have c2 := hR.cell 2
    have f1 := hR.free 1
    have f2 := hR.free 2
    simp at c0 c1 c2
    clear hinv hR hbel
    by_cases hlt : p < s.size
    · by_cases h9 : p + 9 ≤ s.size
      · have h1 := str_idx s p p rfl (by omega)
        have hpi : (p : Int) < (s.size : Int) := by omega
        have hpi0 : (0 : Int) ≤ (p : Int) := by omega
        have hw1 : IntKind.i64.wrap ((p : Int) + 1) = (p : Int) + 1 := by rw [IntKind.wrap_i64]; omega
        obtain ⟨n, hn⟩ : ∃ n, n = Sk.numAt s.data.toList (p + 1) 2 := ⟨_, rfl⟩
        have HN : Hid (Sk.numAt s.data.toList (p + 1) 2 = n) := hn.symm
        have hn2 : (n : Int) ≤ 70000 := by have : n < 65536 := by rw [hn]; exact Sk.numAt_lt _ 2 _
                                           omega
        clear hn
        obtain ⟨c, hc⟩ : ∃ c, c = (Sk.gt s.data.toList p).toNat := ⟨_, rfl⟩
        have HC : Hid ((Sk.gt s.data.toList p).toNat = c) := hc.symm
        rw [← hc] at h1
        have hc2 : Hid (c < 256) := by rw [hc]; exact UInt8.toNat_lt _
        clear hc
        obtain ⟨fr, hfr⟩ : ∃ fr, fr = (c == 1) := ⟨_, rfl⟩
        have HFR : Hid ((c == 1) = fr) := hfr.symm
        have hfri : (((c : Int) == 1) : Bool) = fr := by rw [fr_int, hfr]
        clear hfr
        go_wp2_with fail
        refine (fun hrest : Hid ?P10 => ?main10) ?rest10
        case main10 =>
          go_region_held3 (fun w' => w'.cell? ⟨w.heap.size, 2, none⟩ = some (.int .i64 d)) (go_keep) ((go_at_call 52; refine (refNum_at s _ _ (p + 1) 2 _ (by omega) rfl (by omega) (by omega) (by omega)).mono ?_; rw [HN.out]; rintro e w' ⟨rfl, rfl⟩))
          all_goals exact hrest.out
        case rest10 =>
          unfold Hid
          go_wp2_with fail
          go_region
          have HR2 : Hid (RFile ((wr.setCell ⟨w.heap.size, 2, none⟩ (.int .i64 ((d : Int) + n))).alloc (.cells #[.int .i64 d, .int .i64 n, .int .i64 p, .bool fr] 45)).drew.drew w.heap.size w.heap.size s (.slice vo bs.length vcap) bs (d + n)) :=
            (HR.out.data (d + n) ((d : Int) + n) (by omega)).below (((Below.refl _ _).alloc (Nat.le_refl _) _).drew.drew)
          have HB2 : Hid (Below w.heap.size w ((wr.setCell ⟨w.heap.size, 2, none⟩ (.int .i64 ((d : Int) + n))).alloc (.cells #[.int .i64 d, .int .i64 n, .int .i64 p, .bool fr] 45)).drew.drew) :=
            (((HB.out.setCell (Nat.le_refl _) _).alloc (by simp; omega) _).drew).drew
          have hz : ((wr.setCell ⟨w.heap.size, 2, none⟩ (.int .i64 ((d : Int) + n))).alloc (.cells #[.int .i64 d, .int .i64 n, .int .i64 p, .bool fr] 45)).drew.drew.heap.size = wr.heap.size + 1 := by simp
          have k : ∀ j, ((wr.setCell ⟨w.heap.size, 2, none⟩ (.int .i64 ((d : Int) + n))).alloc (.cells #[.int .i64 d, .int .i64 n, .int .i64 p, .bool fr] 45)).drew.drew.cell? ⟨wr.heap.size, j, none⟩ = (#[.int .i64 d, .int .i64 n, .int .i64 p, .bool fr] : Array Value)[j]? := fun j => World.cell?_alloc_at (w := wr.setCell ⟨w.heap.size, 2, none⟩ (.int .i64 ((d : Int) + n))) _ _ _ _ (by simp)
          generalize ((wr.setCell ⟨w.heap.size, 2, none⟩ (.int .i64 ((d : Int) + n))).alloc (.cells #[.int .i64 d, .int .i64 n, .int .i64 p, .bool fr] 45)).drew.drew = W2 at HR2 HB2 k hz ⊢
          have k0 := k 0
          have k1 := k 1
          have k2 := k 2
          have k3 := k 3
          have HZ : Hid (W2.heap.size = wr.heap.size + 1) := hz
          have d1 := HR2.out.cell 1
          have d2 := HR2.out.cell 2
          have g1 := HR2.out.free 1
          simp at k0 k1 k2 k3 d1 d2
          clear k c0 c1 c2 f1 f2 hz
          have hpi' := hpi
          clear hfri
          rcases bad_of s.data.toList p n c fr bs d HN.out HC.out HFR.out with ⟨hbad, hcase⟩ | ⟨hgood, hc1, hn1, hn3, hdn, hcase⟩
          · have HI2 : Hid (Sk.openN s.data.toList s.size 3 [] 0 = (3, [], 0)) := by
              have := HI.out
              obtain ⟨f, rfl⟩ : ∃ j, f = j + 1 := ⟨f - 1, by omega⟩
              rw [Sk.openN, if_pos (by rw [HL.out]; exact hlt), if_neg (by rw [HL.out]; omega), if_pos hbad] at this
              exact this.symm
            clear hbad HI
            rcases hcase with a1 | ⟨a1, a2⟩ | ⟨a1, a2, a3⟩ | ⟨a1, a2, a3, a4, rfl⟩ | ⟨a1, a2, a3, a4, rfl, a6⟩ | ⟨a1, a2, a3, a4, a5⟩
            all_goals
              go_wp2
              go_ret2
              refine ⟨HB2.out, ?_, ?_⟩
              · rw [HI2.out]; intro h; cases h
              · rw [HI2.out]; intro _; rfl
          · obtain ⟨f, rfl⟩ : ∃ j, f = j + 1 := ⟨f - 1, by omega⟩
            obtain ⟨m, hm'⟩ : ∃ m, m = Sk.numAt s.data.toList (p + 3) 2 := ⟨_, rfl⟩
            have HM : Hid (Sk.numAt s.data.toList (p + 3) 2 = m) := hm'.symm
            have hm2 : (m : Int) ≤ 70000 := by have : m < 65536 := by rw [hm']; exact Sk.numAt_lt _ 2 _
                                               omega
            clear hm'
            by_cases h10 : p + 9 + m ≤ s.size
            · have HI2 : Hid (Sk.openN s.data.toList f (p + 9 + m) (bs ++ [⟨d, n, p, fr⟩]) (d + n) = Sk.openN s.data.toList s.size 3 [] 0) := by
                have := HI.out
                rw [Sk.openN, if_pos (by rw [HL.out]; exact hlt), if_neg (by rw [HL.out]; omega), hgood, if_neg (by decide), HM.out, if_neg (by rw [HL.out]; omega), HN.out, HC.out, HFR.out] at this
                exact this
              have HS : Hid (Src Tryd.prog 4 35 (.slice (some ⟨W2.heap.size, 0, none⟩) 1 1) 1 (Sk.Blk.cells ⟨d, n, p, fr⟩) ((W2.alloc (.cells #[.int .i64 d, .int .i64 n, .int .i64 p, .bool fr] 45)).drew)) := by
                exact srcR_new W2.drew 35 45 Tryd.underlying35 #[.int .i64 d, .int .i64 n, .int .i64 p, .bool fr] 4 1 rfl (by intro u hu; simp at hu; rcases hu with rfl | rfl | rfl | rfl <;> rfl)
              have HR3 : Hid (RFile ((W2.alloc (.cells #[.int .i64 d, .int .i64 n, .int .i64 p, .bool fr] 45)).drew) w.heap.size w.heap.size s (.slice vo bs.length vcap) bs (d + n)) := HR2.out.below (((Below.refl _ _).alloc (Nat.le_refl _) _).drew)
              have HB3 : Hid (Below w.heap.size w ((W2.alloc (.cells #[.int .i64 d, .int .i64 n, .int .i64 p, .bool fr] 45)).drew)) := (HB2.out.alloc (by have := HZ.out; omega) _).drew
              clear HI hgood
              have hz2 : w.heap.size < W2.heap.size := by have := HZ.out; omega
              rcases hcase with ⟨a4, rfl⟩ | a4
              all_goals
                go_wp2_with fail
                refine (refNum_at s _ _ (p + 3) 2 W2 (by omega) rfl (by omega) (by omega) (by omega)).mono ?_
                rw [HM.out]
                rintro e w3 ⟨rfl, hw3⟩
                rw [hw3]
                clear hw3 w3
                go_wp2_with fail
                go_region_law ((refine step_append_rw (by rfl) (.tmp 104) (.tmp 106) 35 35 (by rfl) 45 _ 4 32 Tryd.underlying35 Tryd.infoBlock (by rfl) (.slice vo bs.length vcap) (.slice (some ⟨W2.heap.size, 0, none⟩) 1 1) bs.length 1 (Sk.cellsOf bs) (Sk.Blk.cells ⟨d, n, p, _⟩) (by rfl) (by rfl) HR3.out.row HS.out (by decide) (by omega) (by omega) ?_; intro g1 cap1 w4 hr4 hg4; obtain ⟨q1, q2⟩ := HR3.out.after hg4; have HR4 : Hid (Rw w4 4 (.slice (some ⟨g1, 0, none⟩) (bs.length + 1) cap1) (bs.length + 1) (Sk.cellsOf bs ++ Sk.Blk.cells _)) := hr4; have HG4 : Hid (Gr _ (.slice vo bs.length vcap) w4 (.slice (some ⟨g1, 0, none⟩) (bs.length + 1) cap1)) := hg4; clear hr4 hg4))
                all_goals
                  clear q1 q2 k0 k1 k2 k3 d1 d2 h1 hw1 a4 hz2
                  go_wp2
                  go_roundw
                  case rel => exact ⟨f, p + 9 + m, d + n, _, _, by go_num, by omega, by omega, by rw [List.length_append]; simp; omega, by omega, HR3.out.more ⟨d, n, p, _⟩ HB3.out.size HR4.out HG4.out, (HB3.out.trans (HG4.out.below HB3.out.size (fun k hk => (HR3.out.rowLow k hk).1))).setCell (Nat.le_refl _) _, HI2.out⟩
                  case measure => simp [intOf]; omega
            · have HI2 : Hid (Sk.openN s.data.toList s.size 3 [] 0 = (4, [], 0)) := by
                have := HI.out
                rw [Sk.openN, if_pos (by rw [HL.out]; exact hlt), if_neg (by rw [HL.out]; omega), hgood, if_neg (by decide), HM.out, if_pos (by rw [HL.out]; omega)] at this
                exact this.symm
              clear HI hgood
              rcases hcase with ⟨a4, rfl⟩ | a4
              all_goals
                go_wp2_with fail
                refine (refNum_at s _ _ (p + 3) 2 W2 (by omega) rfl (by omega) (by omega) (by omega)).mono ?_
                rw [HM.out]
                rintro e w3 ⟨rfl, hw3⟩
                rw [hw3]
                clear hw3 w3
                go_wp2
                go_ret2
                refine ⟨HB2.out, ?_, ?_⟩
                · rw [HI2.out]; intro h; cases h
                · rw [HI2.out]; intro _; rfl
      · have HI2 : Hid (Sk.openN s.data.toList s.size 3 [] 0 = (4, [], 0)) := by
          have := HI.out
          obtain ⟨f, rfl⟩ : ∃ j, f = j + 1 := ⟨f - 1, by omega⟩
          rw [Sk.openN, if_pos (by rw [HL.out]; exact hlt), if_pos (by rw [HL.out]; omega)] at this
          exact this.symm
        clear HI
        go_wp2
        go_ret2
        refine ⟨HB.out, ?_, ?_⟩
        · rw [HI2.out]; intro h; cases h
        · rw [HI2.out]; intro _; rfl
    · have HI2 : Hid (Sk.openN s.data.toList s.size 3 [] 0 = (0, bs, d)) := by
        have := HI.out
        rw [Sk.openN_end _ _ _ _ _ (by rw [HL.out]; exact hlt)] at this
        exact this.symm
      clear HI
      go_wp2
      go_ret2
      refine ⟨HB.out, ?_, ?_⟩
      · rw [HI2.out]; intro _; exact ⟨w.heap.size, _, rfl, HR.out⟩
      · rw [HI2.out]; intro h; exact absurd rfl h
end Go.Proofs.YtafkpmjifgohcaaDoor
