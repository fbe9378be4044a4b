/- The law's own step on Open: it answers true, and leaves a world of the same form. -/
import Derived.Test.YtjahkaggaijpjaaDoorLawWk
import Derived.Test.YtjahkaggaijpjaaDoorFileBlocks
import Derived.Test.YtjahkaggaijpjaaDoorLawPlain
namespace Go.Proofs.YtjahkaggaijpjaaDoor
open Go.RowKit

/-- The errors, in blocks that were there. -/
structure SentB (w : World) (A : Nat → Addr) (B : Nat) : Prop where
  s : Sent w A
  l : 7 ≤ B
  a : ∀ i, i < 7 → (A i).block < B

theorem SentB.below {w w' : World} {A : Nat → Addr} {B : Nat} (h : SentB w A B) (hb : Below B w w') : SentB w' A B :=
  ⟨⟨fun i hi => (hb.cell (p := ⟨i, 0, none⟩) (by have := h.l; show i < B; omega)).trans (h.s.cell i hi), h.s.apart, fun i hi => by
    obtain ⟨c, t, e⟩ := h.s.plain i hi
    exact ⟨c, t, (hb.block _ (h.a i hi)).trans e⟩⟩, h.l, h.a⟩
theorem SentB.errs {w : World} {A : Nat → Addr} {B : Nat} (h : SentB w A B) : Errs w A := h.s.cell

theorem Sent.ne {w : World} {A : Nat → Addr} (h : Sent w A) (i j : Nat) (hi : i < 7) (hj : j < 7) (hne : i ≠ j) :
    (binOp .eql 23 (.iface 182 (.pointer (some (A i)))) (.iface 182 (.pointer (some (A j))))).run Tryd.prog w = .ok (.bool false) w := by
  obtain ⟨c, t, e⟩ := h.plain i hi
  obtain ⟨c', t', e'⟩ := h.plain j hj
  exact eq_other (h.apart i j hi hj hne) e e'

set_option maxHeartbeats 1000000 in
theorem plain_at (A : Nat → Addr) (i : Nat) (hi : i < 5) (w : World) (hS : Sent w A) :
    Calls Tryd.prog 65 #[.iface 182 (.pointer (some (A i)))] w fun e w' => e = .returned (.int .i64 ((i + 1 : Nat) : Int)) ∧ w' = w := by
  have c0 := hS.cell 0 (by decide)
  have c1 := hS.cell 1 (by decide)
  have c2 := hS.cell 2 (by decide)
  have c3 := hS.cell 3 (by decide)
  have c4 := hS.cell 4 (by decide)
  have hs := eq_same (W := w) (A i)
  have e0 : i ≠ 0 → _ := fun h => hS.ne i 0 (by omega) (by decide) h
  have e1 : i ≠ 1 → _ := fun h => hS.ne i 1 (by omega) (by decide) h
  have e2 : i ≠ 2 → _ := fun h => hS.ne i 2 (by omega) (by decide) h
  have e3 : i ≠ 3 → _ := fun h => hS.ne i 3 (by omega) (by decide) h
  clear hS
  have hi5 : i = 0 ∨ i = 1 ∨ i = 2 ∨ i = 3 ∨ i = 4 := by omega
  clear hi
  rcases hi5 with rfl | rfl | rfl | rfl | rfl
  · clear e0 e1 e2 e3
    go_enter Tryd.func65, Tryd.ntmps65
    go_wp2
    go_ret
    exact ⟨rfl, rfl⟩
  · have e0 := e0 (by decide)
    clear e1 e2 e3
    go_enter Tryd.func65, Tryd.ntmps65
    go_wp2
    go_ret
    exact ⟨rfl, rfl⟩
  · have e0 := e0 (by decide)
    have e1 := e1 (by decide)
    clear e2 e3
    go_enter Tryd.func65, Tryd.ntmps65
    go_wp2
    go_ret
    exact ⟨rfl, rfl⟩
  · have e0 := e0 (by decide)
    have e1 := e1 (by decide)
    have e2 := e2 (by decide)
    clear e3
    go_enter Tryd.func65, Tryd.ntmps65
    go_wp2
    go_ret
    exact ⟨rfl, rfl⟩
  · have e0 := e0 (by decide)
    have e1 := e1 (by decide)
    have e2 := e2 (by decide)
    have e3 := e3 (by decide)
    go_enter Tryd.func65, Tryd.ntmps65
    go_wp2
    go_ret
    exact ⟨rfl, rfl⟩

theorem Tryd.infoFile : (Tryd.prog.info? 92).map (fun i => (i.zero, i.size, i.bytes)) = some (some (.agg #[.pointer none, .pointer none]), 2, 16) := by kernel_rfl

/-- The law's world, whatever it holds. -/
def WKS (w : World) (B b c : Nat) : Prop := ∃ κ text vf vb vm vn vk cnt F Lb Mb Ln Mn, cnt ≤ c ∧ Wk w B b κ text vf vb vm vn vk cnt F Lb Mb Ln Mn

theorem WKS.below {w w' : World} {B b c : Nat} (h : WKS w B b c) (hb : Below w.heap.size w w') : WKS w' B b c := by
  obtain ⟨κ, text, vf, vb, vm, vn, vk, cnt, F, Lb, Mb, Ln, Mn, h1, h2⟩ := h
  exact ⟨κ, text, vf, vb, vm, vn, vk, cnt, F, Lb, Mb, Ln, Mn, h1, h2.below hb⟩
theorem WKS.mono {w : World} {B b c c' : Nat} (h : WKS w B b c) (hc : c ≤ c') : WKS w B b c' := by
  obtain ⟨κ, text, vf, vb, vm, vn, vk, cnt, F, Lb, Mb, Ln, Mn, h1, h2⟩ := h
  exact ⟨κ, text, vf, vb, vm, vn, vk, cnt, F, Lb, Mb, Ln, Mn, by omega, h2⟩

theorem HurtAt.below {w w' : World} {b off i : Nat} {k0 k1 k2 k3 : Int} (h : HurtAt w b off i k0 k1 k2 k3) (hb : Below w.heap.size w w') : HurtAt w' b off i k0 k1 k2 k3 :=
  have hl := cell_lt h.c0
  ⟨(hb.cell (p := ⟨b, _, none⟩) hl).trans h.c0, (hb.cell (p := ⟨b, _, none⟩) hl).trans h.c1, (hb.cell (p := ⟨b, _, none⟩) hl).trans h.c2, (hb.cell (p := ⟨b, _, none⟩) hl).trans h.c3, h.f1, h.f2, h.f3⟩

/-- A step's hurts, in memory. -/
def Hurts (w : World) (lo : Option Addr) (n : Nat) : Prop := 0 < n → ∃ b off, lo = some ⟨b, off, none⟩ ∧ ∀ j, j < n → ∃ k0 k1 k2 k3, HurtAt w b off j k0 k1 k2 k3
theorem Hurts.below {w w' : World} {lo : Option Addr} {n : Nat} (h : Hurts w lo n) (hb : Below w.heap.size w w') : Hurts w' lo n := fun h0 => by
  obtain ⟨b, off, e, hh⟩ := h h0
  exact ⟨b, off, e, fun j hj => by
    obtain ⟨k0, k1, k2, k3, h'⟩ := hh j hj
    exact ⟨k0, k1, k2, k3, h'.below hb⟩⟩

set_option maxRecDepth 100000 in
set_option maxHeartbeats 4000000 in
theorem opens_wk (B b c : Nat) (A : Nat → Addr) (k0 k1 k2 k3 : Int) (s : ByteArray) (lo : Option Addr) (n cap : Nat) (w : World) (hw : WKS w B b c) (hS : SentB w A B) (hs : s.size ≤ 1000000000000000) (hn : n ≤ 9000000000000) (hH : Hurts w lo n) :
    Calls Tryd.prog 44 #[.pointer (some ⟨b, 0, none⟩), .agg #[.int .i64 k0, .int .i64 k1, .int .i64 k2, .int .i64 k3, .string s, .slice lo n cap]] w fun e w' => e = .returned (.bool true) ∧ Below B w w' ∧ WKS w' B b c := by
  obtain ⟨κ, text, vf, vb, vm, vn, vk, cnt, F, Lb, Mb, Ln, Mn, hc, hk⟩ := hw
  have HC : Hid (cnt ≤ c) := hc
  have hlt := hk.lw.lt
  have hBw := hk.low
  have htx := hk.tx
  have d0 := hk.lw.cell 0
  simp at d0
  have HK : Hid (Wk w B b κ text vf vb vm vn vk cnt F Lb Mb Ln Mn) := hk
  have HS : Hid (SentB w A B) := hS
  have HH : Hid (Hurts w lo n) := hH
  clear hc hk hS hH
  have d0' := cell?_alloc_old (W := w) (.cells #[.int .i64 k0, .int .i64 k1, .int .i64 k2, .int .i64 k3, .string s, .slice lo n cap] 73) d0
  go_enter Tryd.func44, Tryd.ntmps44
  go_wp2_with fail
  have HBX : Hid (Below w.heap.size w ((w.alloc (.cells #[.int .i64 k0, .int .i64 k1, .int .i64 k2, .int .i64 k3, .string s, .slice lo n cap] 73)).drew)) := ((Below.refl _ _).alloc (Nat.le_refl _) _).drew
  go_region_with (go_at_call 66; refine (hurt_any text lo n cap _ (by omega) (HH.out.below HBX.out)).mono ?_; rintro e w1 ⟨u, rfl, hu, hb1⟩)
  all_goals
    have HB1 : Hid (Below w.heap.size w w1) := HBX.out.trans (hb1.mono (by simp))
    have o2 : w1.cell? ⟨w.heap.size, 2, none⟩ = some (.int .i64 k2) := (hb1.cell (p := ⟨w.heap.size, 2, none⟩) (by simp)).trans (by simp)
    have o4 : w1.cell? ⟨w.heap.size, 4, none⟩ = some (.string s) := (hb1.cell (p := ⟨w.heap.size, 4, none⟩) (by simp)).trans (by simp)
    have hz1 : w.heap.size ≤ w1.heap.size := HB1.out.size
    obtain ⟨t, ht, hcase⟩ : ∃ t : ByteArray, t.size ≤ 1000000000000000 ∧ ((t = s ∧ (k2 == 7) = true) ∨ (t = u ∧ (k2 == 7) = false)) := by
      cases h7 : (k2 == 7)
      · exact ⟨u, by omega, .inr ⟨rfl, rfl⟩⟩
      · exact ⟨s, hs, .inl ⟨rfl, rfl⟩⟩
    clear hb1 hu d0 d0'
    have HT : Hid (t.size ≤ 1000000000000000) := ht
    rcases hcase with ⟨rfl, q7⟩ | ⟨rfl, q7⟩
    all_goals
      clear ht
      go_wp2_with fail
      refine (open_any t A w1 (HS.out.below (HB1.out.mono hBw)).errs HT.out).mono ?_
      rintro e w2 ⟨hb2, hq, r0, r1⟩
      have HB2 : Hid (Below w1.heap.size w1 w2) := hb2
      have hz2 : w1.heap.size ≤ w2.heap.size := hb2.size
      have hBw2 : B ≤ w1.heap.size := by omega
      clear hb2
      by_cases h0 : (Sk.openR t.data.toList).1 = 0
      · obtain ⟨g, v, rfl, hpf⟩ := r0 h0
        have HP : Hid (PFile w2 w1.heap.size g t v (Sk.openR t.data.toList).2.1 (Sk.openR t.data.toList).2.2) := hpf
        have H0 : Hid ((Sk.openR t.data.toList).1 = 0) := h0
        clear r0 r1 hq hpf h0
        go_wp2_with fail
        refine (refOpen_any t w2 HT.out).mono ?_
        rintro e w3 ⟨hb3, r0, _⟩
        obtain ⟨g2, v2, rfl, hrf⟩ := r0 H0.out
        have HR : Hid (RFile w3 w2.heap.size g2 t v2 (Sk.openR t.data.toList).2.1 (Sk.openR t.data.toList).2.2) := hrf
        have HB3 : Hid (Below w2.heap.size w2 w3) := hb3
        have hz3 : w2.heap.size ≤ w3.heap.size := hb3.size
        clear r0 hrf hb3
        have HBW : Hid (Below w.heap.size w w3) := (HB1.out.trans (HB2.out.mono hz1)).trans (HB3.out.mono (by omega))
        have hz : t.size ≤ 65536 := by
          have := H0.out
          unfold Sk.openR at this
          by_cases hc : 65536 < t.data.toList.length
          · rw [if_pos hc] at this; cases this
          · have hl : t.data.toList.length = t.size := Array.length_toList
            omega
        obtain ⟨κ', hκ⟩ : ∃ κ' : Nat → Nat, κ' = fun k => if k < w.heap.size then κ k else 7 := ⟨_, rfl⟩
        have HW3 : Hid (Wk w3 B b κ' text vf vb vm vn vk cnt F Lb Mb Ln Mn) := (HK.out.recol (κ' := κ') (fun k hk => by rw [hκ]; exact if_pos hk)).below HBW.out
        have HF : Hid (FE.Ok ⟨g, v, g2, v2, t⟩ w3) := ⟨⟨(HB3.out.block g HP.out.lt).trans HP.out.blk, Nat.zero_le _, HP.out.row.below HB3.out, fun k hk => ⟨Nat.zero_le _, (HP.out.rowLow k hk).2⟩⟩, ⟨HR.out.blk, Nat.zero_le _, HR.out.row, fun k hk => ⟨Nat.zero_le _, (HR.out.rowLow k hk).2⟩⟩, hz⟩
        have H7 : Hid (∀ k, FE.own ⟨g, v, g2, v2, t⟩ k → κ' k = 7) := fun k hk => by
          have : w.heap.size ≤ k := by
            rcases hk with hk | hk | hk | hk
            · have := HP.out.low; have hk' : k = g := hk; omega
            · have := HR.out.low; have hk' : k = g2 := hk; omega
            · have := (HP.out.rowLow k hk).1; omega
            · have := (HR.out.rowLow k hk).1; omega
          rw [hκ]; exact if_neg (by omega)
        clear hκ HB1 HB2 HB3 o2 o4
        go_wp2_with fail
        refine (plain_nil w3).mono ?_
        rintro e w4 ⟨rfl, hw4⟩
        rw [hw4]
        clear hw4 w4
        obtain ⟨fo, fcap, rfl⟩ := HW3.out.rf.form
        have d1 := HW3.out.lw.cell 1
        have f1 := HW3.out.lw.free 1
        simp at d1
        have hb3 := HW3.out.lw.lt
        by_cases h12 : F.length < 12
        · have HSR : Hid (Src Tryd.prog 2 65 (.slice (some ⟨w3.heap.size, 0, none⟩) 1 1) 1 [.pointer (some ⟨g, 0, none⟩), .pointer (some ⟨g2, 0, none⟩)] (w3.alloc (.cells #[.pointer (some ⟨g, 0, none⟩), .pointer (some ⟨g2, 0, none⟩)] 92))) :=
            srcR_new w3 65 92 Tryd.underlying65 #[.pointer (some ⟨g, 0, none⟩), .pointer (some ⟨g2, 0, none⟩)] 2 1 rfl (by intro u hu; simp at hu; rcases hu with rfl | rfl <;> rfl)
          have HW4 : Hid (Wk (w3.alloc (.cells #[.pointer (some ⟨g, 0, none⟩), .pointer (some ⟨g2, 0, none⟩)] 92)) B b κ' text (.slice fo F.length fcap) vb vm vn vk cnt F Lb Mb Ln Mn) := HW3.out.below ((Below.refl _ _).alloc (Nat.le_refl _) _)
          have HF4 : Hid (FE.Ok ⟨g, v, g2, v2, t⟩ (w3.alloc (.cells #[.pointer (some ⟨g, 0, none⟩), .pointer (some ⟨g2, 0, none⟩)] 92))) := HF.out.fr (below_fr ((Below.refl _ _).alloc (Nat.le_refl _) _) (fun _ => False)) (fun _ _ h => h)
          have hi12 : (F.length : Int) < 12 := by omega
          go_wp2_with (at_builtin; refine wpList_append_rw rfl (.tmp 59) (.tmp 63) 65 65 rfl 92 _ 2 16 Tryd.underlying65 Tryd.infoFile rfl (.slice fo F.length fcap) (.slice (some ⟨w3.heap.size, 0, none⟩) 1 1) F.length 1 (F.flatMap FE.cells) [.pointer (some ⟨g, 0, none⟩), .pointer (some ⟨g2, 0, none⟩)] rfl rfl HW4.out.rf HSR.out (by decide) (by omega) (by omega) ?_; intro g5 cap5 w5 hr5 hg5 _; obtain ⟨κ2, hk2, hb2⟩ := HW4.out.addFile ⟨g, v, g2, v2, t⟩ HF4.out H7.out h12 hr5 hg5; have HK2 : Hid _ := hk2; have HBF : Hid _ := hb2; have d5 := (HW4.out.lw.fr hg5.fr (fun e => by have := (HW4.out.k1 _ e).1; have := HW4.out.kb.1; omega)).cell 1; have f5 := (HW4.out.lw.fr hg5.fr (fun e => by have := (HW4.out.k1 _ e).1; have := HW4.out.kb.1; omega)).free 1; simp at d5; clear hr5 hg5 hk2 hb2)
          go_ret
          exact ⟨rfl, ((HBW.out.alloc HBW.out.size _).mono hBw).trans HBF.out, κ2, text, _, vb, vm, vn, vk, cnt, _, Lb, Mb, Ln, Mn, HC.out, HK2.out⟩
        · have hi12 : (12 : Int) ≤ (F.length : Int) := by omega
          go_wp2
          go_ret
          exact ⟨rfl, HBW.out.mono hBw, κ', text, _, vb, vm, vn, vk, cnt, F, Lb, Mb, Ln, Mn, HC.out, HW3.out⟩
      · obtain rfl := r1 h0
        have H0 : Hid ((Sk.openR t.data.toList).1 ≠ 0) := h0
        obtain ⟨q, hq'⟩ : ∃ q, (Sk.openR t.data.toList).1 = q + 1 := ⟨(Sk.openR t.data.toList).1 - 1, by omega⟩
        have HQ : Hid ((Sk.openR t.data.toList).1 = q + 1) := hq'
        have hq4 : q < 5 := by omega
        clear r0 r1 hq h0 hq'
        rw [HQ.out, Nat.add_sub_cancel]
        go_wp2_with fail
        refine (refOpen_any t w2 HT.out).mono ?_
        rintro e w3 ⟨hb3, _, r1⟩
        obtain rfl := r1 H0.out
        have HB3 : Hid (Below w2.heap.size w2 w3) := hb3
        have hz3 : w2.heap.size ≤ w3.heap.size := hb3.size
        clear r1 hb3
        rw [HQ.out]
        have HBW : Hid (Below w.heap.size w w3) := (HB1.out.trans (HB2.out.mono hz1)).trans (HB3.out.mono (by omega))
        have HW3 : Hid (Wk w3 B b κ text vf vb vm vn vk cnt F Lb Mb Ln Mn) := HK.out.below HBW.out
        clear HB1 HB2 HB3 o2 o4
        go_wp2_with fail
        refine (plain_at A q hq4 w3 (HS.out.below (HBW.out.mono hBw)).s).mono ?_
        rintro e w4 ⟨rfl, hw4⟩
        rw [hw4]
        clear hw4 w4
        rw [show ((q + 1 : Nat) : Int) = (q : Int) + 1 from rfl]
        go_wp2
        go_ret
        exact ⟨rfl, HBW.out.mono hBw, κ, text, vf, vb, vm, vn, vk, cnt, F, Lb, Mb, Ln, Mn, HC.out, HW3.out⟩
end Go.Proofs.YtjahkaggaijpjaaDoor
