/- The law's own step on Open: it answers true, and leaves a world of the same form.
The law's own step on Blocks.
The law's own steps on Pack, Open, Size and Blocks.
The law's own play of a script, given its steps. -/
import Derived.Test.YtafkpmjifgohcaaGreatDoorAlluptoPart14
import Derived.Test.YtafkpmjifgohcaaGreatDoorAlluptoPart15
import Derived.Test.YtafkpmjifgohcaaGreatDoorAlluptoPart21
import Derived.Test.YtafkpmjifgohcaaGreatDoorAlluptoPart22
namespace Go.Proofs.YtafkpmjifgohcaaGreatDoor
open Go.RowKit

set_option maxHeartbeats 1000000 in
theorem plain_at (A : Nat → Addr) (i : Nat) (hi : i < 5) (w : World) (hS : Sent w A) :
    Calls Tryz.prog 20 #[.iface 175 (.pointer (some (A i)))] w fun e w' => e = .returned (.int .i64 ((i + 1 : Nat) : Int)) ∧ w' = w := by
  have c0 : w.cell? ⟨3, 0, none⟩ = _ := hS.cell 0 (by decide)
  have c1 : w.cell? ⟨4, 0, none⟩ = _ := hS.cell 1 (by decide)
  have c2 : w.cell? ⟨5, 0, none⟩ = _ := hS.cell 2 (by decide)
  have c3 : w.cell? ⟨6, 0, none⟩ = _ := hS.cell 3 (by decide)
  have c4 : w.cell? ⟨0, 0, none⟩ = _ := hS.cell 4 (by decide)
  have hs := eq_same (W := w) (A i)
  have e0 : i ≠ 0 → _ := fun h => hS.ne i 0 (by omega) (by decide) h
  have e1 : i ≠ 1 → _ := fun h => hS.ne i 1 (by omega) (by decide) h
  have e2 : i ≠ 2 → _ := fun h => hS.ne i 2 (by omega) (by decide) h
  have e3 : i ≠ 3 → _ := fun h => hS.ne i 3 (by omega) (by decide) h
  clear hS
  have hi5 : i = 0 ∨ i = 1 ∨ i = 2 ∨ i = 3 ∨ i = 4 := by omega
  clear hi
  rcases hi5 with rfl | rfl | rfl | rfl | rfl
  · clear e0 e1 e2 e3
    go_enter Tryz.func20, Tryz.ntmps20
    go_wp2
    go_ret
    exact ⟨rfl, rfl⟩
  · have e0 := e0 (by decide)
    clear e1 e2 e3
    go_enter Tryz.func20, Tryz.ntmps20
    go_wp2
    go_ret
    exact ⟨rfl, rfl⟩
  · have e0 := e0 (by decide)
    have e1 := e1 (by decide)
    clear e2 e3
    go_enter Tryz.func20, Tryz.ntmps20
    go_wp2
    go_ret
    exact ⟨rfl, rfl⟩
  · have e0 := e0 (by decide)
    have e1 := e1 (by decide)
    have e2 := e2 (by decide)
    clear e3
    go_enter Tryz.func20, Tryz.ntmps20
    go_wp2
    go_ret
    exact ⟨rfl, rfl⟩
  · have e0 := e0 (by decide)
    have e1 := e1 (by decide)
    have e2 := e2 (by decide)
    have e3 := e3 (by decide)
    go_enter Tryz.func20, Tryz.ntmps20
    go_wp2
    go_ret
    exact ⟨rfl, rfl⟩

theorem Tryz.infoFile : (Tryz.prog.info? 40).map (fun i => (i.zero, i.size, i.bytes)) = some (some (.agg #[.pointer none, .pointer none]), 2, 16) := by kernel_rfl

/-- The law's world, whatever it holds. -/
def WKS (w : World) (B b c : Nat) : Prop := ∃ κ text vf vb vm vn vk cnt F Lb Mb Ln Mn, cnt ≤ c ∧ Wk w B b κ text vf vb vm vn vk cnt F Lb Mb Ln Mn

theorem WKS.below {w w' : World} {B b c : Nat} (h : WKS w B b c) (hb : Below w.heap.size w w') : WKS w' B b c := by
  obtain ⟨κ, text, vf, vb, vm, vn, vk, cnt, F, Lb, Mb, Ln, Mn, h1, h2⟩ := h
  exact ⟨κ, text, vf, vb, vm, vn, vk, cnt, F, Lb, Mb, Ln, Mn, h1, h2.below hb⟩
theorem WKS.mono {w : World} {B b c c' : Nat} (h : WKS w B b c) (hc : c ≤ c') : WKS w B b c' := by
  obtain ⟨κ, text, vf, vb, vm, vn, vk, cnt, F, Lb, Mb, Ln, Mn, h1, h2⟩ := h
  exact ⟨κ, text, vf, vb, vm, vn, vk, cnt, F, Lb, Mb, Ln, Mn, by omega, h2⟩

theorem HurtAt.below {w w' : World} {b off i : Nat} {k0 k1 k2 k3 : Int} (h : HurtAt w b off i k0 k1 k2 k3) (hb : Below w.heap.size w w') : HurtAt w' b off i k0 k1 k2 k3 :=
  have hl := cell_lt h.c0
  ⟨(hb.cell (p := ⟨b, _, none⟩) hl).trans h.c0, (hb.cell (p := ⟨b, _, none⟩) hl).trans h.c1, (hb.cell (p := ⟨b, _, none⟩) hl).trans h.c2, (hb.cell (p := ⟨b, _, none⟩) hl).trans h.c3, h.f1, h.f2, h.f3⟩

/-- A step's hurts, in memory. -/
def Hurts (w : World) (lo : Option Addr) (n : Nat) : Prop := 0 < n → ∃ b off, lo = some ⟨b, off, none⟩ ∧ ∀ j, j < n → ∃ k0 k1 k2 k3, HurtAt w b off j k0 k1 k2 k3
theorem Hurts.below {w w' : World} {lo : Option Addr} {n : Nat} (h : Hurts w lo n) (hb : Below w.heap.size w w') : Hurts w' lo n := fun h0 => by
  obtain ⟨b, off, e, hh⟩ := h h0
  exact ⟨b, off, e, fun j hj => by
    obtain ⟨k0, k1, k2, k3, h'⟩ := hh j hj
    exact ⟨k0, k1, k2, k3, h'.below hb⟩⟩

set_option maxRecDepth 100000 in
set_option maxHeartbeats 4000000 in
theorem opens_wk (B b c : Nat) (A : Nat → Addr) (k0 k1 k2 k3 : Int) (s : ByteArray) (lo : Option Addr) (n cap : Nat) (w : World) (hw : WKS w B b c) (hS : SentB w A B) (hs : s.size ≤ 1000000000000000) (hn : n ≤ 9000000000000) (hH : Hurts w lo n) :
    Calls Tryz.prog 10 #[.pointer (some ⟨b, 0, none⟩), .agg #[.int .i64 k0, .int .i64 k1, .int .i64 k2, .int .i64 k3, .string s, .slice lo n cap]] w fun e w' => e = .returned (.bool true) ∧ Below B w w' ∧ WKS w' B b c := by
  obtain ⟨κ, text, vf, vb, vm, vn, vk, cnt, F, Lb, Mb, Ln, Mn, hc, hk⟩ := hw
  have HC : Hid (cnt ≤ c) := hc
  have hlt := hk.lw.lt
  have hBw := hk.low
  have htx := hk.tx
  have d0 := hk.lw.cell 0
  simp at d0
  have HK : Hid (Wk w B b κ text vf vb vm vn vk cnt F Lb Mb Ln Mn) := hk
  have HS : Hid (SentB w A B) := hS
  have HH : Hid (Hurts w lo n) := hH
  clear hc hk hS hH
  have d0' := cell?_alloc_old (W := w) (.cells #[.int .i64 k0, .int .i64 k1, .int .i64 k2, .int .i64 k3, .string s, .slice lo n cap] 35) d0
  go_enter Tryz.func10, Tryz.ntmps10
  go_wp2_with fail
  have HBX : Hid (Below w.heap.size w ((w.alloc (.cells #[.int .i64 k0, .int .i64 k1, .int .i64 k2, .int .i64 k3, .string s, .slice lo n cap] 35)).drew)) := ((Below.refl _ _).alloc (Nat.le_refl _) _).drew
  go_region_with (go_at_call 21; refine (hurt_any text lo n cap _ (by omega) (HH.out.below HBX.out)).mono ?_; rintro e w1 ⟨u, rfl, hu, hb1⟩)
  all_goals
    have HB1 : Hid (Below w.heap.size w w1) := HBX.out.trans (hb1.mono (by simp))
    have o2 : w1.cell? ⟨w.heap.size, 2, none⟩ = some (.int .i64 k2) := (hb1.cell (p := ⟨w.heap.size, 2, none⟩) (by simp)).trans (by simp)
    have o4 : w1.cell? ⟨w.heap.size, 4, none⟩ = some (.string s) := (hb1.cell (p := ⟨w.heap.size, 4, none⟩) (by simp)).trans (by simp)
    have hz1 : w.heap.size ≤ w1.heap.size := HB1.out.size
    obtain ⟨t, ht, hcase⟩ : ∃ t : ByteArray, t.size ≤ 1000000000000000 ∧ ((t = s ∧ (k2 == 7) = true) ∨ (t = u ∧ (k2 == 7) = false)) := by
      cases h7 : (k2 == 7)
      · exact ⟨u, by omega, .inr ⟨rfl, rfl⟩⟩
      · exact ⟨s, hs, .inl ⟨rfl, rfl⟩⟩
    clear hb1 hu d0 d0'
    have HT : Hid (t.size ≤ 1000000000000000) := ht
    rcases hcase with ⟨rfl, q7⟩ | ⟨rfl, q7⟩
    all_goals
      clear ht
      go_wp2_with fail
      refine (open_any t A w1 (HS.out.below (HB1.out.mono hBw)).errs HT.out).mono ?_
      rintro e w2 ⟨hb2, hq, r0, r1⟩
      have HB2 : Hid (Below w1.heap.size w1 w2) := hb2
      have hz2 : w1.heap.size ≤ w2.heap.size := hb2.size
      have hBw2 : B ≤ w1.heap.size := by omega
      clear hb2
      by_cases h0 : (Sk.openR t.data.toList).1 = 0
      · obtain ⟨g, v, rfl, hpf⟩ := r0 h0
        have HP : Hid (PFile w2 w1.heap.size g t v (Sk.openR t.data.toList).2.1 (Sk.openR t.data.toList).2.2) := hpf
        have H0 : Hid ((Sk.openR t.data.toList).1 = 0) := h0
        clear r0 r1 hq hpf h0
        go_wp2_with fail
        refine (refOpen_any t w2 HT.out).mono ?_
        rintro e w3 ⟨hb3, r0, _⟩
        obtain ⟨g2, v2, rfl, hrf⟩ := r0 H0.out
        have HR : Hid (RFile w3 w2.heap.size g2 t v2 (Sk.openR t.data.toList).2.1 (Sk.openR t.data.toList).2.2) := hrf
        have HB3 : Hid (Below w2.heap.size w2 w3) := hb3
        have hz3 : w2.heap.size ≤ w3.heap.size := hb3.size
        clear r0 hrf hb3
        have HBW : Hid (Below w.heap.size w w3) := (HB1.out.trans (HB2.out.mono hz1)).trans (HB3.out.mono (by omega))
        have hz : t.size ≤ 65536 := by
          have := H0.out
          unfold Sk.openR at this
          by_cases hc : 65536 < t.data.toList.length
          · rw [if_pos hc] at this; cases this
          · have hl : t.data.toList.length = t.size := Array.length_toList
            omega
        obtain ⟨κ', hκ⟩ : ∃ κ' : Nat → Nat, κ' = fun k => if k < w.heap.size then κ k else 7 := ⟨_, rfl⟩
        have HW3 : Hid (Wk w3 B b κ' text vf vb vm vn vk cnt F Lb Mb Ln Mn) := (HK.out.recol (κ' := κ') (fun k hk => by rw [hκ]; exact if_pos hk)).below HBW.out
        have HF : Hid (FE.Ok ⟨g, v, g2, v2, t⟩ w3) := ⟨⟨(HB3.out.block g HP.out.lt).trans HP.out.blk, Nat.zero_le _, HP.out.row.below HB3.out, fun k hk => ⟨Nat.zero_le _, (HP.out.rowLow k hk).2⟩⟩, ⟨HR.out.blk, Nat.zero_le _, HR.out.row, fun k hk => ⟨Nat.zero_le _, (HR.out.rowLow k hk).2⟩⟩, hz⟩
        have H7 : Hid (∀ k, FE.own ⟨g, v, g2, v2, t⟩ k → κ' k = 7) := fun k hk => by
          have : w.heap.size ≤ k := by
            rcases hk with hk | hk | hk | hk
            · have := HP.out.low; have hk' : k = g := hk; omega
            · have := HR.out.low; have hk' : k = g2 := hk; omega
            · have := (HP.out.rowLow k hk).1; omega
            · have := (HR.out.rowLow k hk).1; omega
          rw [hκ]; exact if_neg (by omega)
        clear hκ HB1 HB2 HB3 o2 o4
        go_wp2_with fail
        refine (plain_nil w3).mono ?_
        rintro e w4 ⟨rfl, hw4⟩
        rw [hw4]
        clear hw4 w4
        obtain ⟨fo, fcap, rfl⟩ := HW3.out.rf.form
        have d1 := HW3.out.lw.cell 1
        have f1 := HW3.out.lw.free 1
        simp at d1
        have hb3 := HW3.out.lw.lt
        by_cases h12 : F.length < 12
        · have HSR : Hid (Src Tryz.prog 2 26 (.slice (some ⟨w3.heap.size, 0, none⟩) 1 1) 1 [.pointer (some ⟨g, 0, none⟩), .pointer (some ⟨g2, 0, none⟩)] (w3.alloc (.cells #[.pointer (some ⟨g, 0, none⟩), .pointer (some ⟨g2, 0, none⟩)] 40))) :=
            srcR_new w3 26 40 Tryz.underlying26 #[.pointer (some ⟨g, 0, none⟩), .pointer (some ⟨g2, 0, none⟩)] 2 1 rfl (by intro u hu; simp at hu; rcases hu with rfl | rfl <;> rfl)
          have HW4 : Hid (Wk (w3.alloc (.cells #[.pointer (some ⟨g, 0, none⟩), .pointer (some ⟨g2, 0, none⟩)] 40)) B b κ' text (.slice fo F.length fcap) vb vm vn vk cnt F Lb Mb Ln Mn) := HW3.out.below ((Below.refl _ _).alloc (Nat.le_refl _) _)
          have HF4 : Hid (FE.Ok ⟨g, v, g2, v2, t⟩ (w3.alloc (.cells #[.pointer (some ⟨g, 0, none⟩), .pointer (some ⟨g2, 0, none⟩)] 40))) := HF.out.fr (below_fr ((Below.refl _ _).alloc (Nat.le_refl _) _) (fun _ => False)) (fun _ _ h => h)
          have hi12 : (F.length : Int) < 12 := by omega
          go_wp2_with (at_builtin; refine wpList_append_rw rfl (.tmp 59) (.tmp 63) 26 26 rfl 40 _ 2 16 Tryz.underlying26 Tryz.infoFile rfl (.slice fo F.length fcap) (.slice (some ⟨w3.heap.size, 0, none⟩) 1 1) F.length 1 (F.flatMap FE.cells) [.pointer (some ⟨g, 0, none⟩), .pointer (some ⟨g2, 0, none⟩)] rfl rfl HW4.out.rf HSR.out (by decide) (by omega) (by omega) ?_; intro g5 cap5 w5 hr5 hg5 _; obtain ⟨κ2, hk2, hb2⟩ := HW4.out.addFile ⟨g, v, g2, v2, t⟩ HF4.out H7.out h12 hr5 hg5; have HK2 : Hid _ := hk2; have HBF : Hid _ := hb2; have d5 := (HW4.out.lw.fr hg5.fr (fun e => by have := (HW4.out.k1 _ e).1; have := HW4.out.kb.1; omega)).cell 1; have f5 := (HW4.out.lw.fr hg5.fr (fun e => by have := (HW4.out.k1 _ e).1; have := HW4.out.kb.1; omega)).free 1; simp at d5; clear hr5 hg5 hk2 hb2)
          go_ret
          exact ⟨rfl, ((HBW.out.alloc HBW.out.size _).mono hBw).trans HBF.out, κ2, text, _, vb, vm, vn, vk, cnt, _, Lb, Mb, Ln, Mn, HC.out, HK2.out⟩
        · have hi12 : (12 : Int) ≤ (F.length : Int) := by omega
          go_wp2
          go_ret
          exact ⟨rfl, HBW.out.mono hBw, κ', text, _, vb, vm, vn, vk, cnt, F, Lb, Mb, Ln, Mn, HC.out, HW3.out⟩
      · obtain rfl := r1 h0
        have H0 : Hid ((Sk.openR t.data.toList).1 ≠ 0) := h0
        obtain ⟨q, hq'⟩ : ∃ q, (Sk.openR t.data.toList).1 = q + 1 := ⟨(Sk.openR t.data.toList).1 - 1, by omega⟩
        have HQ : Hid ((Sk.openR t.data.toList).1 = q + 1) := hq'
        have hq4 : q < 5 := by omega
        clear r0 r1 hq h0 hq'
        rw [HQ.out, Nat.add_sub_cancel]
        go_wp2_with fail
        refine (refOpen_any t w2 HT.out).mono ?_
        rintro e w3 ⟨hb3, _, r1⟩
        obtain rfl := r1 H0.out
        have HB3 : Hid (Below w2.heap.size w2 w3) := hb3
        have hz3 : w2.heap.size ≤ w3.heap.size := hb3.size
        clear r1 hb3
        rw [HQ.out]
        have HBW : Hid (Below w.heap.size w w3) := (HB1.out.trans (HB2.out.mono hz1)).trans (HB3.out.mono (by omega))
        have HW3 : Hid (Wk w3 B b κ text vf vb vm vn vk cnt F Lb Mb Ln Mn) := HK.out.below HBW.out
        clear HB1 HB2 HB3 o2 o4
        go_wp2_with fail
        refine (plain_at A q hq4 w3 (HS.out.below (HBW.out.mono hBw)).s).mono ?_
        rintro e w4 ⟨rfl, hw4⟩
        rw [hw4]
        clear hw4 w4
        rw [show ((q + 1 : Nat) : Int) = (q : Int) + 1 from rfl]
        go_wp2
        go_ret
        exact ⟨rfl, HBW.out.mono hBw, κ, text, vf, vb, vm, vn, vk, cnt, F, Lb, Mb, Ln, Mn, HC.out, HW3.out⟩
end Go.Proofs.YtafkpmjifgohcaaGreatDoor

namespace Go.Proofs.YtafkpmjifgohcaaGreatDoor
open Go.RowKit

set_option maxRecDepth 100000 in
set_option maxHeartbeats 4000000 in
theorem tells_wk (B b : Nat) (κ : Nat → Nat) (text : ByteArray) (vf vb vm vn vk : Value) (cnt : Nat) (F : List FE) (Lb : List Value) (Mb : List Int) (Ln : List Value) (Mn : List Int) (w : World) (f : FE) (hk : Wk w B b κ text vf vb vm vn vk cnt F Lb Mb Ln Mn) (hf : f ∈ F) (hc : cnt + 2 ≤ 200000000) :
    Calls Tryz.prog 13 #[.pointer (some ⟨b, 0, none⟩), .agg #[.pointer (some ⟨f.g, 0, none⟩), .pointer (some ⟨f.h, 0, none⟩)]] w fun e w' => e = .returned (.bool true) ∧ Below B w w' ∧ WKS w' B b (cnt + 2) := by
  have hlt := hk.lw.lt
  have hBw := hk.low
  obtain ⟨κ', hκ⟩ : ∃ κ' : Nat → Nat, κ' = fun k => if k < w.heap.size then κ k else 8 := ⟨_, rfl⟩
  have hκ8 : ∀ k, w.heap.size ≤ k → κ' k = 8 := fun k h => by rw [hκ]; exact if_neg (by omega)
  have HK8 : Hid (∀ k, w.heap.size ≤ k → κ' k = 8) := hκ8
  have HK : Hid (Wk w B b κ' text vf vb vm vn vk cnt F Lb Mb Ln Mn) := hk.recol (fun k h => by rw [hκ]; exact if_pos h)
  have HO : Hid (f.Ok w) := hk.fo f hf
  have hgl := (hk.fo f hf).lt f.g (.inl rfl)
  have hhl := (hk.fo f hf).lt f.h (.inr (.inl rfl))
  have hn : f.bs.length ≤ 20000 := by have := Sk.openR_data f.s.data.toList; unfold FE.bs; omega
  clear hk hf hκ hκ8
  obtain ⟨g, v, h, u, s⟩ := f
  dsimp only at hgl hhl ⊢
  generalize hbs : FE.bs ⟨g, v, h, u, s⟩ = bs at hn
  have HBS : Hid (FE.bs ⟨g, v, h, u, s⟩ = bs) := hbs
  clear hbs
  go_enter Tryz.func13, Tryz.ntmps13
  go_wp2_with fail
  have HB0 : Hid (Below w.heap.size w (w.alloc (.cells #[.pointer (some ⟨g, 0, none⟩), .pointer (some ⟨h, 0, none⟩)] 40))) := (Below.refl _ _).alloc (Nat.le_refl _) _
  have hbox : (w.alloc (.cells #[.pointer (some ⟨g, 0, none⟩), .pointer (some ⟨h, 0, none⟩)] 40)).heap[w.heap.size]? = some (.cells #[.pointer (some ⟨g, 0, none⟩), .pointer (some ⟨h, 0, none⟩)] 40 (0, 0)) := heap_alloc_new _ _
  have HBOX : Hid ((w.alloc (.cells #[.pointer (some ⟨g, 0, none⟩), .pointer (some ⟨h, 0, none⟩)] 40)).heap[w.heap.size]? = some (.cells #[.pointer (some ⟨g, 0, none⟩), .pointer (some ⟨h, 0, none⟩)] 40 (0, 0))) := hbox
  have hz0 : (w.alloc (.cells #[.pointer (some ⟨g, 0, none⟩), .pointer (some ⟨h, 0, none⟩)] 40)).heap.size = w.heap.size + 1 := by simp
  clear hbox
  generalize w.alloc (.cells #[.pointer (some ⟨g, 0, none⟩), .pointer (some ⟨h, 0, none⟩)] 40) = w1 at HB0 HBOX hz0 ⊢
  have HP1 : Hid (PFile w1 0 g s v bs (FE.d ⟨g, v, h, u, s⟩)) := by have := HO.out.p.below HB0.out; rw [HBS.out] at this; exact this
  have hz1 : w.heap.size < w1.heap.size := by omega
  have HZ0 : Hid (w1.heap.size = w.heap.size + 1) := hz0
  clear hz0
  refine (blocks_any w1 0 g s v bs _ HP1.out hn).mono ?_
  rintro e w2 ⟨hb2, l, rfl, hl, hlo⟩
  have HB2 : Hid (Below w1.heap.size w1 w2) := hb2
  have HL : Hid (Rw w2 4 l bs.length (Sk.cellsOf bs)) := hl
  have HLO : Hid (∀ k, l.ownBlock = some k → w1.heap.size ≤ k) := hlo
  have hz2 : w1.heap.size ≤ w2.heap.size := hb2.size
  have b2 : w2.cell? ⟨w.heap.size, 0, none⟩ = some (.pointer (some ⟨g, 0, none⟩)) := by
    have := (hb2.block w.heap.size hz1).trans HBOX.out
    simp [World.cell?, this]
  have HP2 : Hid (PFile w2 0 g s v bs (FE.d ⟨g, v, h, u, s⟩)) := HP1.out.below hb2
  clear hb2 hl hlo
  go_wp2_with fail
  refine (blocks_any w2 0 g s v bs _ HP2.out hn).mono ?_
  rintro e w3 ⟨hb3, l2, rfl, hl2, hlo2⟩
  have HB3 : Hid (Below w2.heap.size w2 w3) := hb3
  have HL3 : Hid (Rw w3 4 l bs.length (Sk.cellsOf bs)) := HL.out.below hb3
  have HL2 : Hid (Rw w3 4 l2 bs.length (Sk.cellsOf bs)) := hl2
  have HLO2 : Hid (∀ k, l2.ownBlock = some k → w2.heap.size ≤ k) := hlo2
  have HLT : Hid (∀ k, l.ownBlock = some k → k < w2.heap.size) := HL.out.lt
  have hz3 : w2.heap.size ≤ w3.heap.size := hb3.size
  have HBW : Hid (Below w.heap.size w w3) := (HB0.out.trans (HB2.out.mono (by omega))).trans (hb3.mono (by omega))
  have b3 : w3.cell? ⟨w.heap.size, 1, none⟩ = some (.pointer (some ⟨h, 0, none⟩)) := by
    have := ((hb3.block w.heap.size (by omega)).trans (HB2.out.block w.heap.size hz1)).trans HBOX.out
    simp [World.cell?, this]
  have HR3 : Hid (RFile w3 0 h s u bs (FE.d ⟨g, v, h, u, s⟩)) := by have := HO.out.r.below HBW.out; rw [HBS.out] at this; exact this
  have HW3 : Hid (Wk w3 B b κ' text vf vb vm vn vk cnt F Lb Mb Ln Mn) := HK.out.below HBW.out
  clear hb3 hl2 hlo2 b2 HL HP1 HP2 HO HK HBOX HB0
  obtain ⟨lo, lcap, rfl⟩ := HL3.out.form
  obtain ⟨lo2, lcap2, rfl⟩ := HL2.out.form
  obtain ⟨uo, ucap, rfl⟩ := HR3.out.row.form
  have r1 := HR3.out.cell 1
  simp at r1
  go_wp2_with fail
  go_loopw [8, 9] (fun o i wr => ∃ k : Nat, k ≤ bs.length ∧ o = .bool true ∧ i = .int .i64 k ∧ Below w3.heap.size w3 wr) (fun _ i _ => bs.length - (intOf i).toNat)
  case atStart => exact ⟨0, by omega, by simp, rfl, Below.refl _ _⟩
  case round =>
    obtain ⟨k, hk, rfl, rfl, hbr⟩ := hrel
    have HBR : Hid (Below w3.heap.size w3 wr) := hbr
    clear hbr r1 b3
    by_cases hlk : k < bs.length
    · obtain ⟨a, rfl, ha⟩ := (HL3.out.below HBR.out).blk k hlk
      obtain ⟨a2, rfl, ha2⟩ := (HL2.out.below HBR.out).blk k hlk
      obtain ⟨a3, rfl, ha3⟩ := (HR3.out.below HBR.out).row.blk k hlk
      have x0 := ha 0 (by decide)
      have x1 := ha 1 (by decide)
      have x2 := ha 2 (by decide)
      have x3 := ha 3 (by decide)
      have y0 := ha2 0 (by decide)
      have y1 := ha2 1 (by decide)
      have y2 := ha2 2 (by decide)
      have y3 := ha2 3 (by decide)
      have z0 := ha3 0 (by decide)
      have z1 := ha3 1 (by decide)
      have z2 := ha3 2 (by decide)
      have z3 := ha3 3 (by decide)
      simp only [Nat.add_zero] at x0 y0 z0
      clear ha ha2 ha3
      generalize Sk.bk bs k = bb at x0 x1 x2 x3 y0 y1 y2 y3 z0 z1 z2 z3
      obtain ⟨c0, c1, c2, c3⟩ := bb
      simp [Sk.Blk.cells] at x0 x1 x2 x3 y0 y1 y2 y3 z0 z1 z2 z3
      have kk : (k : Int) < (bs.length : Int) := by omega
      go_wp2_with fail
      go_quiet (fail)
      go_wp2
      go_roundw
      case rel => exact ⟨k + 1, by omega, rfl, by go_num, below_drewN HBR.out _⟩
      case measure => simp [intOf]; omega
    · have HBW2 : Hid (Below w.heap.size w wr) := HBW.out.trans (HBR.out.mono (by omega))
      have HWR : Hid (Wk wr B b κ' text vf vb vm vn vk cnt F Lb Mb Ln Mn) := HW3.out.below HBR.out
      have HLR : Hid (Rw wr 4 (.slice lo bs.length lcap) bs.length (Sk.cellsOf bs)) := HL3.out.below HBR.out
      have HLR2 : Hid (Rw wr 4 (.slice lo2 bs.length lcap2) bs.length (Sk.cellsOf bs)) := HL2.out.below HBR.out
      have hzr : w3.heap.size ≤ wr.heap.size := HBR.out.size
      have HC8 : Hid (∀ k, (Value.slice lo bs.length lcap).ownBlock = some k → κ' k = 8) := fun k hk => HK8.out k (by have := HLO.out k hk; omega)
      have HC82 : Hid (∀ k, (Value.slice lo2 bs.length lcap2).ownBlock = some k → κ' k = 8) := fun k hk => HK8.out k (by have := HLO2.out k hk; omega)
      have HCB : Hid (∀ k, (Value.slice lo bs.length lcap).ownBlock = some k → B ≤ k) := fun k hk => by have := HLO.out k hk; omega
      have HCB2 : Hid (∀ k, (Value.slice lo2 bs.length lcap2).ownBlock = some k → B ≤ k) := fun k hk => by have := HLO2.out k hk; omega
      have HNE : Hid (∀ k, (Value.slice lo2 bs.length lcap2).ownBlock = some k → (Value.slice lo bs.length lcap).ownBlock ≠ some k) := fun k hk e => by have := HLO2.out k hk; have := HLT.out k e; omega
      clear HB2 HB3 HBR HBW HL3 HL2 HR3 HW3
      go_wp2_with fail
      obtain ⟨p1, p2, p3, p4⟩ := HWR.out.apart HC8.out
      refine (lists_any b text vf vb vm vn vk _ cnt bs.length Lb Mb _ wr HWR.out.lw HWR.out.pb HLR.out p1 p2 p3 p4 (by omega) (by omega) (by have := HWR.out.cb.1; omega)).mono ?_
      clear p1 p2 p3 p4
      rintro e w4 ⟨rfl, bx, C, nn, lc, vb', vm', L', M', hj, h4, _, hv⟩
      obtain ⟨κ4, hk4, hb4, hx4⟩ := HWR.out.lists HC8.out HCB.out (n := bs.length) (by omega) hj h4 hv
      have HW4 : Hid (Wk w4 B b κ4 text vf vb' vm' vn vk (cnt + 1) F (Lb ++ L') (Mb ++ M') Ln Mn) := hk4
      have HB4 : Hid (Below B wr w4) := hb4
      have HLR4 : Hid (Rw w4 4 (.slice lo2 bs.length lcap2) bs.length (Sk.cellsOf bs)) := HLR2.out.kept hb4.size (fun k hk => (hx4 k (HLR2.out.lt k hk) (HC82.out k hk) (HNE.out k hk)).2)
      have HC84 : Hid (∀ k, (Value.slice lo2 bs.length lcap2).ownBlock = some k → κ4 k = 8) := fun k hk => (hx4 k (HLR2.out.lt k hk) (HC82.out k hk) (HNE.out k hk)).1
      clear hk4 hb4 hx4 hj hv h4 HLR2 HLR
      go_wp2_with fail
      obtain ⟨p1, p2, p3, p4⟩ := HW4.out.apart HC84.out
      refine (lists_any b text vf vb' vm' vn vk _ (cnt + 1) bs.length (Lb ++ L') (Mb ++ M') _ w4 HW4.out.lw HW4.out.pb HLR4.out p1 p2 p3 p4 (by omega) (by omega) (by have := HW4.out.cb.1; omega)).mono ?_
      clear p1 p2 p3 p4
      rintro e w5 ⟨rfl, bx2, C2, nn2, lc2, vb2, vm2, L2, M2, hj, h4, _, hv⟩
      obtain ⟨κ5, hk5, hb5, _⟩ := HW4.out.lists HC84.out HCB2.out (n := bs.length) (by omega) hj h4 hv
      have HW5 : Hid (Wk w5 B b κ5 text vf vb2 vm2 vn vk (cnt + 1 + 1) F (Lb ++ L' ++ L2) (Mb ++ M' ++ M2) Ln Mn) := hk5
      have HB5 : Hid (Below B w4 w5) := hb5
      clear hk5 hb5 hj hv h4
      go_wp2
      go_ret
      exact ⟨rfl, ((HBW2.out.mono hBw).trans HB4.out).trans HB5.out, κ5, text, vf, vb2, vm2, vn, vk, cnt + 1 + 1, F, _, _, Ln, Mn, by omega, HW5.out⟩
end Go.Proofs.YtafkpmjifgohcaaGreatDoor

namespace Go.Proofs.YtafkpmjifgohcaaGreatDoor
open Go.RowKit

theorem packOut_size {l : List UInt8} {B E : Int} {f : List UInt8} (h : packOut l B E = some f) : f.length ≤ 65536 := by
  unfold packOut at h
  split at h
  · split at h
    · cases h; assumption
    · cases h
  · cases h

set_option maxHeartbeats 2000000 in
theorem packs_wk (B b c : Nat) (A : Nat → Addr) (k0 k1 k2 k3 : Int) (s : ByteArray) (lo : Option Addr) (n cap : Nat) (w : World) (hw : WKS w B b c) (hS : SentB w A B) :
    Calls Tryz.prog 9 #[.pointer (some ⟨b, 0, none⟩), .agg #[.int .i64 k0, .int .i64 k1, .int .i64 k2, .int .i64 k3, .string s, .slice lo n cap]] w fun e w' => e = .returned (.bool true) ∧ Below B w w' ∧ WKS w' B b c := by
  obtain ⟨κ, text, vf, vb, vm, vn, vk, cnt, F, Lb, Mb, Ln, Mn, hc, hk⟩ := hw
  have HC : Hid (cnt ≤ c) := hc
  have hlt := hk.lw.lt
  have hBw := hk.low
  have hbB := hk.kb.2
  have HK : Hid (Wk w B b κ text vf vb vm vn vk cnt F Lb Mb Ln Mn) := hk
  have HS : Hid (SentB w A B) := hS
  clear hc hk hS
  cases hp : packOut s.data.toList k2 k3 with
  | none =>
    have HP : Hid (packOut s.data.toList k2 k3 = none) := hp
    clear hp
    go_enter Tryz.func9, Tryz.ntmps9
    go_wp2_with fail
    refine (pack_any s k2 k3 (A 0) _ (cell?_alloc_old _ (HS.out.s.cell 0 (by decide)))).mono ?_
    rw [HP.out]
    rintro e w1 ⟨hb1, rfl⟩
    obtain ⟨c2, c3, c4⟩ := box_cells hb1
    have HB1 : Hid (Below w.heap.size w w1) := ((Below.refl _ _).alloc (Nat.le_refl _) _).trans (hb1.mono (by simp))
    clear hb1
    go_wp2_with fail
    refine (refPack_any s k2 k3 w1).mono ?_
    rw [HP.out]
    rintro e w2 ⟨hb2, rfl⟩
    have HB2 : Hid (Below w.heap.size w w2) := HB1.out.trans (hb2.mono HB1.out.size)
    clear hb2 c2 c3 c4
    go_wp2_with fail
    refine (plain_at A 0 (by decide) w2 (HS.out.below (HB2.out.mono hBw)).s).mono ?_
    rintro e w3 ⟨rfl, hw3⟩
    rw [hw3]
    clear hw3 w3
    go_wp2
    go_ret
    exact ⟨rfl, HB2.out.mono hBw, κ, text, vf, vb, vm, vn, vk, cnt, F, Lb, Mb, Ln, Mn, HC.out, HK.out.below HB2.out⟩
  | some f =>
    have HP : Hid (packOut s.data.toList k2 k3 = some f) := hp
    clear hp
    go_enter Tryz.func9, Tryz.ntmps9
    go_wp2_with fail
    refine (pack_any s k2 k3 (A 0) _ (cell?_alloc_old _ (HS.out.s.cell 0 (by decide)))).mono ?_
    rw [HP.out]
    rintro e w1 ⟨hb1, rfl⟩
    obtain ⟨c2, c3, c4⟩ := box_cells hb1
    have HB1 : Hid (Below w.heap.size w w1) := ((Below.refl _ _).alloc (Nat.le_refl _) _).trans (hb1.mono (by simp))
    clear hb1
    go_wp2_with fail
    refine (refPack_any s k2 k3 w1).mono ?_
    rw [HP.out]
    rintro e w2 ⟨hb2, rfl⟩
    have HB2 : Hid (Below w.heap.size w w2) := HB1.out.trans (hb2.mono HB1.out.size)
    have HK2 : Hid (Wk w2 B b κ text vf vb vm vn vk cnt F Lb Mb Ln Mn) := HK.out.below HB2.out
    clear hb2 c2 c3 c4
    have d0 := HK2.out.lw.cell 0
    have f0 := HK2.out.lw.free 0
    simp at d0
    go_wp2_with fail
    refine (plain_nil _).mono ?_
    rintro e w3 ⟨rfl, rfl⟩
    go_wp2
    go_ret
    exact ⟨rfl, (HB2.out.mono hBw).setCell hbB _, κ, ⟨f.toArray⟩, vf, vb, vm, vn, vk, cnt, F, Lb, Mb, Ln, Mn, HC.out, HK2.out.setText ⟨f.toArray⟩ (by show f.toArray.size ≤ 65536; simpa using packOut_size HP.out)⟩

theorem files_get : ∀ (F : List FE) (k : Nat) (h : k < F.length) (j : Nat), j < 2 → (F.flatMap FE.cells)[k * 2 + j]? = (F[k]).cells[j]?
  | [], _, h, _, _ => absurd h (Nat.not_lt_zero _)
  | f :: F, 0, _, j, hj => by
    show (f.cells ++ F.flatMap FE.cells)[0 * 2 + j]? = _
    rw [Nat.zero_mul, Nat.zero_add, List.getElem?_append_left (by simp [FE.cells]; omega)]
    rfl
  | f :: F, k + 1, h, j, hj => by
    show (f.cells ++ F.flatMap FE.cells)[(k + 1) * 2 + j]? = _
    rw [List.getElem?_append_right (by simp [FE.cells]; omega), show (k + 1) * 2 + j - f.cells.length = k * 2 + j by simp [FE.cells]; omega]
    exact files_get F k (by simpa using h) j hj
theorem files_length : ∀ F : List FE, (F.flatMap FE.cells).length = F.length * 2
  | [] => rfl
  | f :: F => by rw [List.flatMap_cons, List.length_append, files_length F]; simp [FE.cells]; omega

/-- The file of a place. -/
theorem Wk.file {w : World} {B b : Nat} {κ : Nat → Nat} {text : ByteArray} {fo : Option Addr} {fcap : Nat} {vb vm vn vk : Value} {cnt : Nat} {F : List FE} {Lb : List Value} {Mb : List Int} {Ln : List Value} {Mn : List Int}
    (h : Wk w B b κ text (.slice fo F.length fcap) vb vm vn vk cnt F Lb Mb Ln Mn) (h0 : 0 < F.length) : ∃ a, fo = some ⟨a, 0, none⟩ ∧ a < w.heap.size ∧ ∀ k, k < F.length → ∃ f, f ∈ F ∧ w.cell? ⟨a, k * 2, none⟩ = some (.pointer (some ⟨f.g, 0, none⟩)) ∧ w.cell? ⟨a, k * 2 + 1, none⟩ = some (.pointer (some ⟨f.h, 0, none⟩)) := by
  obtain ⟨a, rfl⟩ := h.rf.some_of h0
  have hl := files_length F
  refine ⟨a, rfl, h.rf.lt a rfl, fun k hk => ⟨F[k], List.getElem_mem hk, ?_, ?_⟩⟩
  · have := files_get F k hk 0 (by decide)
    rw [h.rf.cell (k * 2) (by omega), ← List.getElem?_eq_getElem (by omega)]
    exact this
  · have := files_get F k hk 1 (by decide)
    rw [h.rf.cell (k * 2 + 1) (by omega), ← List.getElem?_eq_getElem (by omega)]
    exact this

set_option maxHeartbeats 400000 in
/-- pick's number hangs on its arguments alone. -/
theorem pick_det (c : Int) (n : Nat) (hc : Fits c) (hn : 0 < n) (hn2 : n ≤ 1000000000000000) :
    ∃ k : Nat, k < n ∧ ∀ w, Calls Tryz.prog 11 #[.int .i64 c, .int .i64 n] w fun e w' => e = .returned (.int .i64 k) ∧ w' = w := by
  by_cases h0 : 0 ≤ c
  · have HF : Hid (∃ k : Nat, k < n ∧ (k : Int) = c % (n : Int)) := by
      refine ⟨(c % (n : Int)).toNat, ?_, ?_⟩
      · have := Int.emod_lt_of_pos c (show (0 : Int) < n by omega); have := Int.emod_nonneg c (show (n : Int) ≠ 0 by omega); omega
      · have := Int.emod_nonneg c (show (n : Int) ≠ 0 by omega); omega
    have hnb : ((n : Int) == 0) = false := by rw [beq_eq_false_iff_ne]; omega
    clear hc
    obtain ⟨k, hk, e⟩ := HF.out
    have HE : Hid ((k : Int) = c % (n : Int)) := e
    clear e HF
    refine ⟨k, hk, fun w => ?_⟩
    go_enter Tryz.func11, Tryz.ntmps11
    go_wp2
    go_ret
    exact ⟨ret_int (by rw [HE.out]), rfl⟩
  · have h1 : Fits (c + 1) := ⟨by have := hc.1; omega, by omega⟩
    have h2 : Fits (-(c + 1)) := ⟨by omega, by have := hc.1; omega⟩
    have w1 := wrap_fits _ h1
    have w2 := wrap_fits _ h2
    obtain ⟨y, hy⟩ : ∃ y : Nat, (y : Int) = -(c + 1) := ⟨(-(c + 1)).toNat, by omega⟩
    have hneg : c < 0 := by omega
    clear hc h1 h2 h0
    refine ⟨y % n, Nat.mod_lt _ hn, fun w => ?_⟩
    go_enter Tryz.func11, Tryz.ntmps11
    go_wp2
    go_ret
    refine ⟨ret_int ?_, rfl⟩
    rw [← Int.neg_tmod, ← hy]
    exact Int.ofNat_tmod y n

set_option maxRecDepth 100000 in
set_option maxHeartbeats 4000000 in
theorem step_wk (B b c : Nat) (A : Nat → Addr) (k0 k1 k2 k3 : Int) (s : ByteArray) (lo : Option Addr) (n cap : Nat) (w : World) (hw : WKS w B b c) (hS : SentB w A B) (hs : s.size ≤ 1000000000000000) (hn : n ≤ 9000000000000) (hH : Hurts w lo n) (hf : Fits k1) (hc : c + 2 ≤ 200000000) (hk4 : k0 ≠ 5) (hk6 : k0 ≠ 6) :
    Calls Tryz.prog 7 #[.pointer (some ⟨b, 0, none⟩), .agg #[.int .i64 k0, .int .i64 k1, .int .i64 k2, .int .i64 k3, .string s, .slice lo n cap]] w fun e w' => e = .returned (.bool true) ∧ Below B w w' ∧ WKS w' B b (c + 2) := by
  have HX : Hid (Below w.heap.size w (w.alloc (.cells #[.int .i64 k0, .int .i64 k1, .int .i64 k2, .int .i64 k3, .string s, .slice lo n cap] 35))) := (Below.refl _ _).alloc (Nat.le_refl _) _
  have HW : Hid (WKS w B b c) := hw
  have hBw : B ≤ w.heap.size := by obtain ⟨κ, text, vf, vb, vm, vn, vk, cnt, F, Lb, Mb, Ln, Mn, _, h⟩ := hw; exact h.low
  have HS : Hid (SentB w A B) := hS
  have HH : Hid (Hurts w lo n) := hH
  have HFT : Hid (Fits k1) := hf
  clear hw hS hH hf
  by_cases h1 : k0 = 1
  · subst h1
    go_enter Tryz.func7, Tryz.ntmps7
    go_wp2_with fail
    refine (packs_wk B b c A 1 k1 k2 k3 s lo n cap _ (HW.out.below HX.out) (HS.out.below (HX.out.mono hBw))).mono ?_
    rintro e w1 ⟨rfl, hb, hu⟩
    go_wp2
    go_ret
    exact ⟨rfl, (HX.out.mono hBw).trans hb, hu.mono (by omega)⟩
  · have e1 : (k0 == 1) = false := by simpa using h1
    by_cases h2 : k0 = 2
    · subst h2
      go_enter Tryz.func7, Tryz.ntmps7
      go_wp2_with fail
      refine (opens_wk B b c A 2 k1 k2 k3 s lo n cap _ (HW.out.below HX.out) (HS.out.below (HX.out.mono hBw)) hs hn (HH.out.below HX.out)).mono ?_
      rintro e w1 ⟨rfl, hb, hu⟩
      go_wp2
      go_ret
      exact ⟨rfl, (HX.out.mono hBw).trans hb, hu.mono (by omega)⟩
    · have e2 : (k0 == 2) = false := by simpa using h2
      clear h1 h2
      obtain ⟨κ, text, vf, vb, vm, vn, vk, cnt, F, Lb, Mb, Ln, Mn, hcc, hk⟩ := HW.out
      have HCC : Hid (cnt ≤ c) := hcc
      obtain ⟨fo, fcap, rfl⟩ := hk.rf.form
      have d1 := hk.lw.cell 1
      simp at d1
      have hlt := hk.lw.lt
      have HK : Hid (Wk w B b κ text (.slice fo F.length fcap) vb vm vn vk cnt F Lb Mb Ln Mn) := hk
      have hfl := hk.fl
      clear hcc hk
      by_cases h0 : F.length = 0
      · have e0 : ((F.length : Int) == 0) = true := by rw [h0]; rfl
        clear h0
        go_enter Tryz.func7, Tryz.ntmps7
        go_wp2
        go_ret
        exact ⟨rfl, HX.out.mono hBw, (HW.out.below HX.out).mono (by omega)⟩
      · have e0 : ((F.length : Int) == 0) = false := by rw [beq_eq_false_iff_ne]; omega
        obtain ⟨a, rfl, ha, hel⟩ := HK.out.file (by omega)
        obtain ⟨kk, hkk, hpk⟩ := pick_det k1 F.length HFT.out (by omega) (by omega)
        obtain ⟨f, hfm, hf0, hf1⟩ := hel kk hkk
        have HPK : Hid (∀ w, Calls Tryz.prog 11 #[.int .i64 k1, .int .i64 F.length] w fun e w' => e = .returned (.int .i64 kk) ∧ w' = w) := hpk
        have HFM : Hid (f ∈ F) := hfm
        have hki : (kk : Int) < (F.length : Int) := by omega
        have hki0 : (0 : Int) ≤ (kk : Int) := by omega
        clear hel hpk hfm hkk
        have t1 := World.new_ne w ⟨a, kk * 2, none⟩ hf0
        have t2 := World.new_ne w ⟨b, 1, none⟩ d1
        go_enter Tryz.func7, Tryz.ntmps7
        go_wp2_with fail
        refine (fun hrest : Hid ?P10 => ?main10) ?rest10
        case main10 =>
          go_region_held3 (fun w' => w'.cell? ⟨b, 1, none⟩ = some (.slice (some ⟨a, 0, none⟩) F.length fcap) ∧ w'.cell? ⟨w.heap.size, 1, none⟩ = some (.int .i64 k1) ∧ w'.cell? ⟨a, kk * 2, none⟩ = some (.pointer (some ⟨f.g, 0, none⟩)) ∧ w'.cell? ⟨a, kk * 2 + 1, none⟩ = some (.pointer (some ⟨f.h, 0, none⟩))) (go_keep) ((go_at_call 11; refine (HPK.out _).mono ?_; rintro e w' ⟨rfl, rfl⟩))
          all_goals exact hrest.out
        case rest10 =>
          unfold Hid
          have HB2 : Hid (Below w.heap.size w ((w.alloc (.cells #[.int .i64 k0, .int .i64 k1, .int .i64 k2, .int .i64 k3, .string s, .slice lo n cap] 35)).alloc (.cells #[.pointer (some ⟨f.g, 0, none⟩), .pointer (some ⟨f.h, 0, none⟩)] 40)).drew) := (((Below.refl _ _).alloc (Nat.le_refl _) _).alloc (by simp) _).drew
          have g0 : ((w.alloc (.cells #[.int .i64 k0, .int .i64 k1, .int .i64 k2, .int .i64 k3, .string s, .slice lo n cap] 35)).alloc (.cells #[.pointer (some ⟨f.g, 0, none⟩), .pointer (some ⟨f.h, 0, none⟩)] 40)).drew.cell? ⟨w.heap.size, 0, none⟩ = some (.int .i64 k0) := by simp
          have g1 : ((w.alloc (.cells #[.int .i64 k0, .int .i64 k1, .int .i64 k2, .int .i64 k3, .string s, .slice lo n cap] 35)).alloc (.cells #[.pointer (some ⟨f.g, 0, none⟩), .pointer (some ⟨f.h, 0, none⟩)] 40)).drew.cell? ⟨w.heap.size + 1, 0, none⟩ = some (.pointer (some ⟨f.g, 0, none⟩)) := by
            exact World.cell?_alloc_at (w := w.alloc (.cells #[.int .i64 k0, .int .i64 k1, .int .i64 k2, .int .i64 k3, .string s, .slice lo n cap] 35)) _ _ _ _ (by simp)
          have g2 : ((w.alloc (.cells #[.int .i64 k0, .int .i64 k1, .int .i64 k2, .int .i64 k3, .string s, .slice lo n cap] 35)).alloc (.cells #[.pointer (some ⟨f.g, 0, none⟩), .pointer (some ⟨f.h, 0, none⟩)] 40)).drew.cell? ⟨w.heap.size + 1, 1, none⟩ = some (.pointer (some ⟨f.h, 0, none⟩)) := by
            exact World.cell?_alloc_at (w := w.alloc (.cells #[.int .i64 k0, .int .i64 k1, .int .i64 k2, .int .i64 k3, .string s, .slice lo n cap] 35)) _ _ _ _ (by simp)
          generalize ((w.alloc (.cells #[.int .i64 k0, .int .i64 k1, .int .i64 k2, .int .i64 k3, .string s, .slice lo n cap] 35)).alloc (.cells #[.pointer (some ⟨f.g, 0, none⟩), .pointer (some ⟨f.h, 0, none⟩)] 40)).drew = W2 at HB2 g0 g1 g2 ⊢
          have HW2 : Hid (Wk W2 B b κ text (.slice (some ⟨a, 0, none⟩) F.length fcap) vb vm vn vk cnt F Lb Mb Ln Mn) := HK.out.below HB2.out
          have hok := HW2.out.fo f HFM.out
          have HOK : Hid (f.Ok W2) := hok
          have r2 := hok.r.cell 2
          simp at r2
          clear hok t1 t2 hf0 hf1 d1
          by_cases h3 : k0 = 3
          · have e3 : (k0 == 3) = true := by simpa using h3
            clear h3
            go_wp2_with fail
            refine (size_any W2 0 f.g f.s f.v f.bs f.d HOK.out.p).mono ?_
            rintro e w3 ⟨rfl, hw3⟩
            rw [hw3]
            clear hw3 w3
            go_wp2
            go_ret
            exact ⟨by simp, HB2.out.mono hBw, (HW.out.below HB2.out).mono (by omega)⟩
          · have e3 : (k0 == 3) = false := by simpa using h3
            by_cases h4 : k0 = 4
            · have e4 : (k0 == 4) = true := by simpa using h4
              clear h4 h3
              go_wp2_with fail
              refine (tells_wk B b κ text _ vb vm vn vk cnt F Lb Mb Ln Mn W2 f HW2.out HFM.out (by have := HCC.out; omega)).mono ?_
              rintro e w3 ⟨rfl, hb3, hw3⟩
              go_wp2
              go_ret
              exact ⟨rfl, (HB2.out.mono hBw).trans hb3, hw3.mono (by have := HCC.out; omega)⟩
            · have e4 : (k0 == 4) = false := by simpa using h4
              have e5 : (k0 == 5) = false := by simpa using hk4
              have e6 : (k0 == 6) = false := by simpa using hk6
              clear h4 h3
              go_wp2
              go_ret
              exact ⟨rfl, HB2.out.mono hBw, (HW.out.below HB2.out).mono (by omega)⟩
end Go.Proofs.YtafkpmjifgohcaaGreatDoor

namespace Go.Proofs.YtafkpmjifgohcaaGreatDoor
open Go.RowKit

/-- The steps up to the kind L answer true, and leave a world of the same form. -/
def StepsTo (L : Int) (Q : World → Prop) : Prop := ∀ (B b c : Nat) (A : Nat → Addr) (k0 k1 k2 k3 : Int) (s : ByteArray) (lo : Option Addr) (n cap : Nat) (w : World), WKS w B b c → SentB w A B → Q w → s.size ≤ 1000000000000000 → n ≤ 9000000000000 → Hurts w lo n → Fits k1 → Fits k2 → Fits k3 → c + 2 ≤ 200000000 → k0 ≤ L →
    Calls Tryz.prog 7 #[.pointer (some ⟨b, 0, none⟩), .agg #[.int .i64 k0, .int .i64 k1, .int .i64 k2, .int .i64 k3, .string s, .slice lo n cap]] w fun e w' => e = .returned (.bool true) ∧ Below B w w' ∧ WKS w' B b (c + 2)

theorem stepsTo4 : StepsTo 4 (fun _ => True) := fun B b c A k0 k1 k2 k3 s lo n cap w hw hS _ hs hn hH hf _ _ hc hk => step_wk B b c A k0 k1 k2 k3 s lo n cap w hw hS hs hn hH hf hc (by omega) (by omega)

theorem wks_new (w : World) : WKS (w.alloc (.cells #[.string ⟨#[]⟩, .slice none 0 0, .slice none 0 0, .slice none 0 0, .slice none 0 0, .slice none 0 0, .int .i64 0] 31)) w.heap.size w.heap.size 0 :=
  ⟨fun _ => 0, ⟨#[]⟩, .slice none 0 0, .slice none 0 0, .slice none 0 0, .slice none 0 0, .slice none 0 0, 0, [], [], [], [], [], Nat.le_refl _,
    { lw := ⟨heap_alloc_new w _⟩, rf := Rw.nil _ _, pb := ⟨Rw.nil _ _, Rw.nil _ _, fun i h _ => absurd h (Nat.not_lt_zero _)⟩, pn := ⟨Rw.nil _ _, Rw.nil _ _, fun i h _ => absurd h (Nat.not_lt_zero _)⟩, fo := (fun _ h => nomatch h), kb := ⟨rfl, Nat.le_refl _⟩,
      k1 := (fun _ h => nomatch h), k2 := (fun _ h => nomatch h), k3 := (fun _ h => nomatch h), k4 := (fun _ h => nomatch h), k5 := (fun _ h => nomatch h), k6 := (fun _ h => nomatch h), k7 := (fun _ h => nomatch h), k8 := (fun _ h => nomatch h), sz := (fun _ h => nomatch h), cb := ⟨Nat.le_refl _, Nat.le_refl _⟩, tx := by decide, fl := by decide }⟩

theorem still_wk (B b c : Nat) (w : World) (hw : WKS w B b c) (hc : c ≤ 200000000) :
    Calls Tryz.prog 8 #[.pointer (some ⟨b, 0, none⟩)] w fun e w' => e = .returned (.bool true) ∧ Below w.heap.size w w' := by
  obtain ⟨κ, text, vf, vb, vm, vn, vk, cnt, F, Lb, Mb, Ln, Mn, hcc, hk⟩ := hw
  exact still_any b text vf vb vm vn vk cnt Lb Mb Ln Mn w hk.lw hk.pb hk.pn (by have := hk.cb; omega) (by have := hk.cb; omega) (fun v hv a n c e => by have := hk.sz v hv a n c e; omega)

/-- A step of a script, in memory. -/
structure OpOk (w : World) (b off i : Nat) (k0 k1 k2 k3 : Int) (s : ByteArray) (x : Option Addr) (n c : Nat) : Prop where
  o : OpAt w b off i k0 k1 k2 k3 s x n c
  f1 : Fits k1
  f2 : Fits k2
  f3 : Fits k3
  hs : s.size ≤ 1000000000000000
  hn : n ≤ 9000000000000
  hh : Hurts w x n

theorem fits_small (k : Int) (h : -100 ≤ k) (h2 : k ≤ 100) : Fits k := ⟨by omega, by omega⟩
theorem hurts_none (w : World) (lo : Option Addr) : Hurts w lo 0 := fun h => absurd h (by decide)

set_option maxRecDepth 100000 in
set_option maxHeartbeats 4000000 in
theorem played_to (L : Nat) (Q : World → Prop) (hL : StepsTo L Q) (hL2 : 2 ≤ L) (hL6 : L ≤ 6) (so : Option Addr) (len cap : Nat) (A : Nat → Addr) (w : World) (hlen : len ≤ 50000000) (hS : SentB w A w.heap.size) (hQ : ∀ W, Below w.heap.size w W → Q W)
    (hel : 0 < len → ∃ b off, so = some ⟨b, off, none⟩ ∧ ∀ i, i < len → ∃ k0 k1 k2 k3 s x n c, OpOk w b off i k0 k1 k2 k3 s x n c) :
    Calls Tryz.prog 6 #[.slice so len cap, .int .i64 L] w fun e w' => e = .returned (.bool true) ∧ Below w.heap.size w w' := by
  have HE : Hid (0 < len → ∃ b off, so = some ⟨b, off, none⟩ ∧ ∀ i, i < len → ∃ k0 k1 k2 k3 s x n c, OpOk w b off i k0 k1 k2 k3 s x n c) := hel
  have HS : Hid (SentB w A w.heap.size) := hS
  have HL : Hid (StepsTo L Q) := hL
  have HQ : Hid (∀ W, Below w.heap.size w W → Q W) := hQ
  clear hel hS hL hQ
  have HB0 : Hid (Below w.heap.size w (w.alloc (.cells #[.string ⟨#[]⟩, .slice none 0 0, .slice none 0 0, .slice none 0 0, .slice none 0 0, .slice none 0 0, .int .i64 0] 31))) := (Below.refl _ _).alloc (Nat.le_refl _) _
  have hLi : (2 : Int) ≤ (L : Int) := by omega
  go_enter Tryz.func6, Tryz.ntmps6
  go_wp2_with fail
  refine (HL.out w.heap.size w.heap.size 0 A 1 0 6 2 abcS none 0 0 _ (wks_new w) (HS.out.below HB0.out) (HQ.out _ HB0.out) (by decide) (by decide) (hurts_none _ _) (fits_small _ (by decide) (by decide)) (fits_small _ (by decide) (by decide)) (fits_small _ (by decide) (by decide)) (by decide) (by omega)).mono ?_
  rintro e w1 ⟨rfl, hb1, hw1⟩
  have HB1 : Hid (Below w.heap.size w w1) := HB0.out.trans hb1
  have HW1 : Hid (WKS w1 w.heap.size w.heap.size 2) := hw1
  clear hb1 hw1
  go_wp2_with fail
  refine (HL.out w.heap.size w.heap.size 2 A 2 0 0 0 ⟨#[]⟩ none 0 0 _ HW1.out (HS.out.below HB1.out) (HQ.out _ HB1.out) (by decide) (by decide) (hurts_none _ _) (fits_small _ (by decide) (by decide)) (fits_small _ (by decide) (by decide)) (fits_small _ (by decide) (by decide)) (by decide) (by omega)).mono ?_
  rintro e w2 ⟨rfl, hb2, hw2⟩
  have HB2 : Hid (Below w.heap.size w w2) := HB1.out.trans hb2
  have HW2 : Hid (WKS w2 w.heap.size w.heap.size 4) := hw2
  clear hb2 hw2
  go_wp2_with fail
  go_loopw [6, 7] (fun o i wr => ∃ k : Nat, 3 ≤ k ∧ k ≤ L + 1 ∧ o = .bool true ∧ i = .int .i64 k ∧ Below w.heap.size w wr ∧ WKS wr w.heap.size w.heap.size (2 * k)) (fun _ i _ => L + 1 - (intOf i).toNat)
  case atStart => exact ⟨3, by omega, by omega, rfl, rfl, HB2.out, HW2.out.mono (by omega)⟩
  case round =>
    obtain ⟨k, hk3, hkL, rfl, rfl, hb, hw⟩ := hrel
    have HB : Hid (Below w.heap.size w wr) := hb
    have HW : Hid (WKS wr w.heap.size w.heap.size (2 * k)) := hw
    clear hb hw HB1 HB2 HW1 HW2
    by_cases hlk : k ≤ L
    · go_wp2_with fail
      refine (HL.out w.heap.size w.heap.size (2 * k) A k 0 4 4 ⟨#[]⟩ none 0 0 _ HW.out (HS.out.below HB.out) (HQ.out _ HB.out) (by decide) (by decide) (hurts_none _ _) (fits_small _ (by decide) (by decide)) (fits_small _ (by decide) (by decide)) (fits_small _ (by decide) (by decide)) (by omega) (by omega)).mono ?_
      rintro e w3 ⟨rfl, hb3, hw3⟩
      have HB3 : Hid (Below w.heap.size w w3) := HB.out.trans hb3
      have HW3 : Hid (WKS w3 w.heap.size w.heap.size (2 * k + 2)) := hw3
      clear hb3 hw3
      go_wp2
      go_roundw
      case rel => exact ⟨k + 1, by omega, by omega, rfl, by go_num, HB3.out, HW3.out.mono (by omega)⟩
      case measure => simp [intOf]; omega
    · have hlk' : (L : Int) < (k : Int) := by omega
      go_wp2_with fail
      go_loopw [6, 8] (fun o i wr => ∃ k : Nat, k ≤ len ∧ o = .bool true ∧ i = .int .i64 k ∧ Below w.heap.size w wr ∧ WKS wr w.heap.size w.heap.size (20 + 2 * k)) (fun _ i _ => len - (intOf i).toNat)
      case atStart => exact ⟨0, by omega, rfl, rfl, HB.out, HW.out.mono (by omega)⟩
      case round =>
        obtain ⟨j, hj, rfl, rfl, hb, hw⟩ := hrel
        clear HB HW
        have HB : Hid (Below w.heap.size w wr) := hb
        have HW : Hid (WKS wr w.heap.size w.heap.size (20 + 2 * j)) := hw
        clear hb hw
        by_cases hlj : j < len
        · obtain ⟨b, off, rfl, hel⟩ := HE.out (by omega)
          obtain ⟨k0, k1, k2, k3, s, x, n, c, hop⟩ := hel j hlj
          have hbl := cell_lt hop.o.c0
          have carry : ∀ j v, w.cell? ⟨b, j, none⟩ = some v → wr.cell? ⟨b, j, none⟩ = some v := fun j v h => (HB.out.cell (p := ⟨b, j, none⟩) hbl).trans h
          have e0 := carry _ _ hop.o.c0
          have e1 := carry _ _ hop.o.c1
          have e2 := carry _ _ hop.o.c2
          have e3 := carry _ _ hop.o.c3
          have e4 := carry _ _ hop.o.c4
          have e5 := carry _ _ hop.o.c5
          have HOP : Hid (OpOk w b off j k0 k1 k2 k3 s x n c) := hop
          clear carry hop hel
          by_cases h1 : k0 ≤ (L : Int)
          · go_wp2_with fail
            refine (HL.out w.heap.size w.heap.size (20 + 2 * j) A k0 k1 k2 k3 s x n c wr HW.out (HS.out.below HB.out) (HQ.out _ HB.out) HOP.out.hs HOP.out.hn (HOP.out.hh.below HB.out) HOP.out.f1 HOP.out.f2 HOP.out.f3 (by omega) h1).mono ?_
            rintro e w3 ⟨rfl, hb3, hw3⟩
            have HB3 : Hid (Below w.heap.size w w3) := HB.out.trans hb3
            have HW3 : Hid (WKS w3 w.heap.size w.heap.size (20 + 2 * j + 2)) := hw3
            clear hb3 hw3 e0 e1 e2 e3 e4 e5
            go_wp2_with fail
            refine (still_wk w.heap.size w.heap.size (20 + 2 * j + 2) w3 HW3.out (by omega)).mono ?_
            rintro e w4 ⟨rfl, hb4⟩
            have HB4 : Hid (Below w.heap.size w w4) := HB3.out.trans (hb4.mono HB3.out.size)
            have HW4 : Hid (WKS w4 w.heap.size w.heap.size (20 + 2 * j + 2)) := HW3.out.below hb4
            clear hb4
            go_wp2
            go_roundw
            case rel => exact ⟨j + 1, by omega, rfl, by go_num, HB4.out, HW4.out.mono (by omega)⟩
            case measure => simp [intOf]; omega
          · have h1' : (L : Int) < k0 := by omega
            go_wp2
            go_roundw
            case rel => exact ⟨j + 1, by omega, rfl, by go_num, HB.out, HW.out.mono (by omega)⟩
            case measure => simp [intOf]; omega
        · go_wp2
          go_ret
          exact ⟨rfl, HB.out⟩

/-- The law Opens: its script's steps lie in memory, or there are none. -/
theorem opens_law (so : Option Addr) (len cap : Nat) (A : Nat → Addr) (w : World) (hlen : len ≤ 50000000) (hS : SentB w A w.heap.size)
    (hel : 0 < len → ∃ b off, so = some ⟨b, off, none⟩ ∧ ∀ i, i < len → ∃ k0 k1 k2 k3 s x n c, OpOk w b off i k0 k1 k2 k3 s x n c) :
    Calls Tryz.prog 4 #[.slice so len cap] w fun e w' => e = .returned (.bool true) ∧ Below w.heap.size w w' := by
  have HP : Hid (Calls Tryz.prog 6 #[.slice so len cap, .int .i64 4] w fun e w' => e = .returned (.bool true) ∧ Below w.heap.size w w') := played_to 4 _ stepsTo4 (by decide) (by decide) so len cap A w hlen hS (fun _ _ => trivial) hel
  clear hS hel
  go_enter Tryz.func4, Tryz.ntmps4
  go_wp2_with fail
  refine Calls.mono HP.out ?_
  rintro e w1 ⟨rfl, hb⟩
  go_wp2
  go_ret
  exact ⟨rfl, hb⟩
end Go.Proofs.YtafkpmjifgohcaaGreatDoor
