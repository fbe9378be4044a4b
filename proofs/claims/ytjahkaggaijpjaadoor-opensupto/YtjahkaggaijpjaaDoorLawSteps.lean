/- The law's own steps on Pack, Open, Size and Blocks. -/
import Derived.Test.YtjahkaggaijpjaaDoorLawTells
namespace Go.Proofs.YtjahkaggaijpjaaDoor
open Go.RowKit

theorem packOut_size {l : List UInt8} {B E : Int} {f : List UInt8} (h : packOut l B E = some f) : f.length ≤ 65536 := by
  unfold packOut at h
  split at h
  · split at h
    · cases h; assumption
    · cases h
  · cases h

set_option maxHeartbeats 2000000 in
theorem packs_wk (B b c : Nat) (A : Nat → Addr) (k0 k1 k2 k3 : Int) (s : ByteArray) (lo : Option Addr) (n cap : Nat) (w : World) (hw : WKS w B b c) (hS : SentB w A B) :
    Calls Tryd.prog 43 #[.pointer (some ⟨b, 0, none⟩), .agg #[.int .i64 k0, .int .i64 k1, .int .i64 k2, .int .i64 k3, .string s, .slice lo n cap]] w fun e w' => e = .returned (.bool true) ∧ Below B w w' ∧ WKS w' B b c := by
  obtain ⟨κ, text, vf, vb, vm, vn, vk, cnt, F, Lb, Mb, Ln, Mn, hc, hk⟩ := hw
  have HC : Hid (cnt ≤ c) := hc
  have hlt := hk.lw.lt
  have hBw := hk.low
  have hbB := hk.kb.2
  have HK : Hid (Wk w B b κ text vf vb vm vn vk cnt F Lb Mb Ln Mn) := hk
  have HS : Hid (SentB w A B) := hS
  clear hc hk hS
  cases hp : packOut s.data.toList k2 k3 with
  | none =>
    have HP : Hid (packOut s.data.toList k2 k3 = none) := hp
    clear hp
    go_enter Tryd.func43, Tryd.ntmps43
    go_wp2_with fail
    refine (pack_any s k2 k3 (A 0) _ (cell?_alloc_old _ (HS.out.s.cell 0 (by decide)))).mono ?_
    rw [HP.out]
    rintro e w1 ⟨hb1, rfl⟩
    obtain ⟨c2, c3, c4⟩ := box_cells hb1
    have HB1 : Hid (Below w.heap.size w w1) := ((Below.refl _ _).alloc (Nat.le_refl _) _).trans (hb1.mono (by simp))
    clear hb1
    go_wp2_with fail
    refine (refPack_any s k2 k3 w1).mono ?_
    rw [HP.out]
    rintro e w2 ⟨hb2, rfl⟩
    have HB2 : Hid (Below w.heap.size w w2) := HB1.out.trans (hb2.mono HB1.out.size)
    clear hb2 c2 c3 c4
    go_wp2_with fail
    refine (plain_at A 0 (by decide) w2 (HS.out.below (HB2.out.mono hBw)).s).mono ?_
    rintro e w3 ⟨rfl, hw3⟩
    rw [hw3]
    clear hw3 w3
    go_wp2
    go_ret
    exact ⟨rfl, HB2.out.mono hBw, κ, text, vf, vb, vm, vn, vk, cnt, F, Lb, Mb, Ln, Mn, HC.out, HK.out.below HB2.out⟩
  | some f =>
    have HP : Hid (packOut s.data.toList k2 k3 = some f) := hp
    clear hp
    go_enter Tryd.func43, Tryd.ntmps43
    go_wp2_with fail
    refine (pack_any s k2 k3 (A 0) _ (cell?_alloc_old _ (HS.out.s.cell 0 (by decide)))).mono ?_
    rw [HP.out]
    rintro e w1 ⟨hb1, rfl⟩
    obtain ⟨c2, c3, c4⟩ := box_cells hb1
    have HB1 : Hid (Below w.heap.size w w1) := ((Below.refl _ _).alloc (Nat.le_refl _) _).trans (hb1.mono (by simp))
    clear hb1
    go_wp2_with fail
    refine (refPack_any s k2 k3 w1).mono ?_
    rw [HP.out]
    rintro e w2 ⟨hb2, rfl⟩
    have HB2 : Hid (Below w.heap.size w w2) := HB1.out.trans (hb2.mono HB1.out.size)
    have HK2 : Hid (Wk w2 B b κ text vf vb vm vn vk cnt F Lb Mb Ln Mn) := HK.out.below HB2.out
    clear hb2 c2 c3 c4
    have d0 := HK2.out.lw.cell 0
    have f0 := HK2.out.lw.free 0
    simp at d0
    go_wp2_with fail
    refine (plain_nil _).mono ?_
    rintro e w3 ⟨rfl, rfl⟩
    go_wp2
    go_ret
    exact ⟨rfl, (HB2.out.mono hBw).setCell hbB _, κ, ⟨f.toArray⟩, vf, vb, vm, vn, vk, cnt, F, Lb, Mb, Ln, Mn, HC.out, HK2.out.setText ⟨f.toArray⟩ (by show f.toArray.size ≤ 65536; simpa using packOut_size HP.out)⟩

theorem files_get : ∀ (F : List FE) (k : Nat) (h : k < F.length) (j : Nat), j < 2 → (F.flatMap FE.cells)[k * 2 + j]? = (F[k]).cells[j]?
  | [], _, h, _, _ => absurd h (Nat.not_lt_zero _)
  | f :: F, 0, _, j, hj => by
    show (f.cells ++ F.flatMap FE.cells)[0 * 2 + j]? = _
    rw [Nat.zero_mul, Nat.zero_add, List.getElem?_append_left (by simp [FE.cells]; omega)]
    rfl
  | f :: F, k + 1, h, j, hj => by
    show (f.cells ++ F.flatMap FE.cells)[(k + 1) * 2 + j]? = _
    rw [List.getElem?_append_right (by simp [FE.cells]; omega), show (k + 1) * 2 + j - f.cells.length = k * 2 + j by simp [FE.cells]; omega]
    exact files_get F k (by simpa using h) j hj
theorem files_length : ∀ F : List FE, (F.flatMap FE.cells).length = F.length * 2
  | [] => rfl
  | f :: F => by rw [List.flatMap_cons, List.length_append, files_length F]; simp [FE.cells]; omega

/-- The file of a place. -/
theorem Wk.file {w : World} {B b : Nat} {κ : Nat → Nat} {text : ByteArray} {fo : Option Addr} {fcap : Nat} {vb vm vn vk : Value} {cnt : Nat} {F : List FE} {Lb : List Value} {Mb : List Int} {Ln : List Value} {Mn : List Int}
    (h : Wk w B b κ text (.slice fo F.length fcap) vb vm vn vk cnt F Lb Mb Ln Mn) (h0 : 0 < F.length) : ∃ a, fo = some ⟨a, 0, none⟩ ∧ a < w.heap.size ∧ ∀ k, k < F.length → ∃ f, f ∈ F ∧ w.cell? ⟨a, k * 2, none⟩ = some (.pointer (some ⟨f.g, 0, none⟩)) ∧ w.cell? ⟨a, k * 2 + 1, none⟩ = some (.pointer (some ⟨f.h, 0, none⟩)) := by
  obtain ⟨a, rfl⟩ := h.rf.some_of h0
  have hl := files_length F
  refine ⟨a, rfl, h.rf.lt a rfl, fun k hk => ⟨F[k], List.getElem_mem hk, ?_, ?_⟩⟩
  · have := files_get F k hk 0 (by decide)
    rw [h.rf.cell (k * 2) (by omega), ← List.getElem?_eq_getElem (by omega)]
    exact this
  · have := files_get F k hk 1 (by decide)
    rw [h.rf.cell (k * 2 + 1) (by omega), ← List.getElem?_eq_getElem (by omega)]
    exact this

set_option maxHeartbeats 400000 in
/-- pick's number hangs on its arguments alone. -/
theorem pick_det (c : Int) (n : Nat) (hc : Fits c) (hn : 0 < n) (hn2 : n ≤ 1000000000000000) :
    ∃ k : Nat, k < n ∧ ∀ w, Calls Tryd.prog 45 #[.int .i64 c, .int .i64 n] w fun e w' => e = .returned (.int .i64 k) ∧ w' = w := by
  by_cases h0 : 0 ≤ c
  · have HF : Hid (∃ k : Nat, k < n ∧ (k : Int) = c % (n : Int)) := by
      refine ⟨(c % (n : Int)).toNat, ?_, ?_⟩
      · have := Int.emod_lt_of_pos c (show (0 : Int) < n by omega); have := Int.emod_nonneg c (show (n : Int) ≠ 0 by omega); omega
      · have := Int.emod_nonneg c (show (n : Int) ≠ 0 by omega); omega
    have hnb : ((n : Int) == 0) = false := by rw [beq_eq_false_iff_ne]; omega
    clear hc
    obtain ⟨k, hk, e⟩ := HF.out
    have HE : Hid ((k : Int) = c % (n : Int)) := e
    clear e HF
    refine ⟨k, hk, fun w => ?_⟩
    go_enter Tryd.func45, Tryd.ntmps45
    go_wp2
    go_ret
    exact ⟨ret_int (by rw [HE.out]), rfl⟩
  · have h1 : Fits (c + 1) := ⟨by have := hc.1; omega, by omega⟩
    have h2 : Fits (-(c + 1)) := ⟨by omega, by have := hc.1; omega⟩
    have w1 := wrap_fits _ h1
    have w2 := wrap_fits _ h2
    obtain ⟨y, hy⟩ : ∃ y : Nat, (y : Int) = -(c + 1) := ⟨(-(c + 1)).toNat, by omega⟩
    have hneg : c < 0 := by omega
    clear hc h1 h2 h0
    refine ⟨y % n, Nat.mod_lt _ hn, fun w => ?_⟩
    go_enter Tryd.func45, Tryd.ntmps45
    go_wp2
    go_ret
    refine ⟨ret_int ?_, rfl⟩
    rw [← Int.neg_tmod, ← hy]
    exact Int.ofNat_tmod y n

set_option maxRecDepth 100000 in
set_option maxHeartbeats 4000000 in
theorem step_wk (B b c : Nat) (A : Nat → Addr) (k0 k1 k2 k3 : Int) (s : ByteArray) (lo : Option Addr) (n cap : Nat) (w : World) (hw : WKS w B b c) (hS : SentB w A B) (hs : s.size ≤ 1000000000000000) (hn : n ≤ 9000000000000) (hH : Hurts w lo n) (hf : Fits k1) (hc : c + 2 ≤ 200000000) (hk4 : k0 ≠ 5) (hk6 : k0 ≠ 6) :
    Calls Tryd.prog 30 #[.pointer (some ⟨b, 0, none⟩), .agg #[.int .i64 k0, .int .i64 k1, .int .i64 k2, .int .i64 k3, .string s, .slice lo n cap]] w fun e w' => e = .returned (.bool true) ∧ Below B w w' ∧ WKS w' B b (c + 2) := by
  have HX : Hid (Below w.heap.size w (w.alloc (.cells #[.int .i64 k0, .int .i64 k1, .int .i64 k2, .int .i64 k3, .string s, .slice lo n cap] 73))) := (Below.refl _ _).alloc (Nat.le_refl _) _
  have HW : Hid (WKS w B b c) := hw
  have hBw : B ≤ w.heap.size := by obtain ⟨κ, text, vf, vb, vm, vn, vk, cnt, F, Lb, Mb, Ln, Mn, _, h⟩ := hw; exact h.low
  have HS : Hid (SentB w A B) := hS
  have HH : Hid (Hurts w lo n) := hH
  have HFT : Hid (Fits k1) := hf
  clear hw hS hH hf
  by_cases h1 : k0 = 1
  · subst h1
    go_enter Tryd.func30, Tryd.ntmps30
    go_wp2_with fail
    refine (packs_wk B b c A 1 k1 k2 k3 s lo n cap _ (HW.out.below HX.out) (HS.out.below (HX.out.mono hBw))).mono ?_
    rintro e w1 ⟨rfl, hb, hu⟩
    go_wp2
    go_ret
    exact ⟨rfl, (HX.out.mono hBw).trans hb, hu.mono (by omega)⟩
  · have e1 : (k0 == 1) = false := by simpa using h1
    by_cases h2 : k0 = 2
    · subst h2
      go_enter Tryd.func30, Tryd.ntmps30
      go_wp2_with fail
      refine (opens_wk B b c A 2 k1 k2 k3 s lo n cap _ (HW.out.below HX.out) (HS.out.below (HX.out.mono hBw)) hs hn (HH.out.below HX.out)).mono ?_
      rintro e w1 ⟨rfl, hb, hu⟩
      go_wp2
      go_ret
      exact ⟨rfl, (HX.out.mono hBw).trans hb, hu.mono (by omega)⟩
    · have e2 : (k0 == 2) = false := by simpa using h2
      clear h1 h2
      obtain ⟨κ, text, vf, vb, vm, vn, vk, cnt, F, Lb, Mb, Ln, Mn, hcc, hk⟩ := HW.out
      have HCC : Hid (cnt ≤ c) := hcc
      obtain ⟨fo, fcap, rfl⟩ := hk.rf.form
      have d1 := hk.lw.cell 1
      simp at d1
      have hlt := hk.lw.lt
      have HK : Hid (Wk w B b κ text (.slice fo F.length fcap) vb vm vn vk cnt F Lb Mb Ln Mn) := hk
      have hfl := hk.fl
      clear hcc hk
      by_cases h0 : F.length = 0
      · have e0 : ((F.length : Int) == 0) = true := by rw [h0]; rfl
        clear h0
        go_enter Tryd.func30, Tryd.ntmps30
        go_wp2
        go_ret
        exact ⟨rfl, HX.out.mono hBw, (HW.out.below HX.out).mono (by omega)⟩
      · have e0 : ((F.length : Int) == 0) = false := by rw [beq_eq_false_iff_ne]; omega
        obtain ⟨a, rfl, ha, hel⟩ := HK.out.file (by omega)
        obtain ⟨kk, hkk, hpk⟩ := pick_det k1 F.length HFT.out (by omega) (by omega)
        obtain ⟨f, hfm, hf0, hf1⟩ := hel kk hkk
        have HPK : Hid (∀ w, Calls Tryd.prog 45 #[.int .i64 k1, .int .i64 F.length] w fun e w' => e = .returned (.int .i64 kk) ∧ w' = w) := hpk
        have HFM : Hid (f ∈ F) := hfm
        have hki : (kk : Int) < (F.length : Int) := by omega
        have hki0 : (0 : Int) ≤ (kk : Int) := by omega
        clear hel hpk hfm hkk
        have t1 := World.new_ne w ⟨a, kk * 2, none⟩ hf0
        have t2 := World.new_ne w ⟨b, 1, none⟩ d1
        go_enter Tryd.func30, Tryd.ntmps30
        go_wp2_with fail
        refine (fun hrest : Hid ?P10 => ?main10) ?rest10
        case main10 =>
          go_region_held3 (fun w' => w'.cell? ⟨b, 1, none⟩ = some (.slice (some ⟨a, 0, none⟩) F.length fcap) ∧ w'.cell? ⟨w.heap.size, 1, none⟩ = some (.int .i64 k1) ∧ w'.cell? ⟨a, kk * 2, none⟩ = some (.pointer (some ⟨f.g, 0, none⟩)) ∧ w'.cell? ⟨a, kk * 2 + 1, none⟩ = some (.pointer (some ⟨f.h, 0, none⟩))) (go_keep) ((go_at_call 45; refine (HPK.out _).mono ?_; rintro e w' ⟨rfl, rfl⟩))
          all_goals exact hrest.out
        case rest10 =>
          unfold Hid
          have HB2 : Hid (Below w.heap.size w ((w.alloc (.cells #[.int .i64 k0, .int .i64 k1, .int .i64 k2, .int .i64 k3, .string s, .slice lo n cap] 73)).alloc (.cells #[.pointer (some ⟨f.g, 0, none⟩), .pointer (some ⟨f.h, 0, none⟩)] 92)).drew) := (((Below.refl _ _).alloc (Nat.le_refl _) _).alloc (by simp) _).drew
          have g0 : ((w.alloc (.cells #[.int .i64 k0, .int .i64 k1, .int .i64 k2, .int .i64 k3, .string s, .slice lo n cap] 73)).alloc (.cells #[.pointer (some ⟨f.g, 0, none⟩), .pointer (some ⟨f.h, 0, none⟩)] 92)).drew.cell? ⟨w.heap.size, 0, none⟩ = some (.int .i64 k0) := by simp
          have g1 : ((w.alloc (.cells #[.int .i64 k0, .int .i64 k1, .int .i64 k2, .int .i64 k3, .string s, .slice lo n cap] 73)).alloc (.cells #[.pointer (some ⟨f.g, 0, none⟩), .pointer (some ⟨f.h, 0, none⟩)] 92)).drew.cell? ⟨w.heap.size + 1, 0, none⟩ = some (.pointer (some ⟨f.g, 0, none⟩)) := by
            exact World.cell?_alloc_at (w := w.alloc (.cells #[.int .i64 k0, .int .i64 k1, .int .i64 k2, .int .i64 k3, .string s, .slice lo n cap] 73)) _ _ _ _ (by simp)
          have g2 : ((w.alloc (.cells #[.int .i64 k0, .int .i64 k1, .int .i64 k2, .int .i64 k3, .string s, .slice lo n cap] 73)).alloc (.cells #[.pointer (some ⟨f.g, 0, none⟩), .pointer (some ⟨f.h, 0, none⟩)] 92)).drew.cell? ⟨w.heap.size + 1, 1, none⟩ = some (.pointer (some ⟨f.h, 0, none⟩)) := by
            exact World.cell?_alloc_at (w := w.alloc (.cells #[.int .i64 k0, .int .i64 k1, .int .i64 k2, .int .i64 k3, .string s, .slice lo n cap] 73)) _ _ _ _ (by simp)
          generalize ((w.alloc (.cells #[.int .i64 k0, .int .i64 k1, .int .i64 k2, .int .i64 k3, .string s, .slice lo n cap] 73)).alloc (.cells #[.pointer (some ⟨f.g, 0, none⟩), .pointer (some ⟨f.h, 0, none⟩)] 92)).drew = W2 at HB2 g0 g1 g2 ⊢
          have HW2 : Hid (Wk W2 B b κ text (.slice (some ⟨a, 0, none⟩) F.length fcap) vb vm vn vk cnt F Lb Mb Ln Mn) := HK.out.below HB2.out
          have hok := HW2.out.fo f HFM.out
          have HOK : Hid (f.Ok W2) := hok
          have r2 := hok.r.cell 2
          simp at r2
          clear hok t1 t2 hf0 hf1 d1
          by_cases h3 : k0 = 3
          · have e3 : (k0 == 3) = true := by simpa using h3
            clear h3
            go_wp2_with fail
            refine (size_any W2 0 f.g f.s f.v f.bs f.d HOK.out.p).mono ?_
            rintro e w3 ⟨rfl, hw3⟩
            rw [hw3]
            clear hw3 w3
            go_wp2
            go_ret
            exact ⟨by simp, HB2.out.mono hBw, (HW.out.below HB2.out).mono (by omega)⟩
          · have e3 : (k0 == 3) = false := by simpa using h3
            by_cases h4 : k0 = 4
            · have e4 : (k0 == 4) = true := by simpa using h4
              clear h4 h3
              go_wp2_with fail
              refine (tells_wk B b κ text _ vb vm vn vk cnt F Lb Mb Ln Mn W2 f HW2.out HFM.out (by have := HCC.out; omega)).mono ?_
              rintro e w3 ⟨rfl, hb3, hw3⟩
              go_wp2
              go_ret
              exact ⟨rfl, (HB2.out.mono hBw).trans hb3, hw3.mono (by have := HCC.out; omega)⟩
            · have e4 : (k0 == 4) = false := by simpa using h4
              have e5 : (k0 == 5) = false := by simpa using hk4
              have e6 : (k0 == 6) = false := by simpa using hk6
              clear h4 h3
              go_wp2
              go_ret
              exact ⟨rfl, HB2.out.mono hBw, (HW.out.below HB2.out).mono (by omega)⟩
end Go.Proofs.YtjahkaggaijpjaaDoor
