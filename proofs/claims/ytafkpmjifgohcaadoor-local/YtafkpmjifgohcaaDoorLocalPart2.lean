/- (*File).unpackBlock, walked. -/
import Derived.Test.YtafkpmjifgohcaaDoorTokUnpack
import Derived.Test.YtafkpmjifgohcaaDoorFileBlocks
import Derived.Test.YtafkpmjifgohcaaDoorHdrSum
import Derived.Lib.ConvBytes
namespace Go.Proofs.YtafkpmjifgohcaaDoor
open Go.RowKit

set_option maxHeartbeats 400000 in
theorem hdrSum_cells (g cap : Nat) (L : List UInt8) (w : World) (h4 : ∀ j (h : j < L.length), w.cell? ⟨g, j, none⟩ = some (cellOf L[j])) (hL : L.length ≤ 900000) :
    Calls Tryd.prog 81 #[.slice (some ⟨g, 0, none⟩) L.length cap] w fun e w' => e = .returned (.int .u32 (Sk.sumOf L)) ∧ w' = w := by
  have HC : Hid (∀ j (h : j < L.length), w.cell? ⟨g, j, none⟩ = some (cellOf L[j])) := h4
  clear h4
  go_enter Tryd.func81, Tryd.ntmps81
  go_wp2
  go_loop [3, 4, 9] (fun a b i => ∃ k x y : Nat, k ≤ L.length ∧ i = .int .i64 k ∧ a = .int .u32 x ∧ b = .int .u32 y ∧ x < 65521 ∧ y < 65521 ∧ Sk.sumN (L.drop k) x y = Sk.sumN L 1 0) (fun _ _ i => L.length - (intOf i).toNat)
  case atStart => exact ⟨0, 1, 0, by omega, rfl, rfl, rfl, by omega, by omega, rfl⟩
  case round =>
    obtain ⟨k, x, y, hk, rfl, rfl, rfl, hx, hy, hinv⟩ := hrel
    have HI : Hid (Sk.sumN (L.drop k) x y = Sk.sumN L 1 0) := hinv
    clear hinv
    by_cases hlt : k < L.length
    · have hc : w.cell? ⟨g, k, none⟩ = some (.int .u8 (L[k].toNat : Int)) := HC.out k hlt
      have hbb := UInt8.toNat_lt L[k]
      have HI2 : Hid (Sk.sumN (L.drop (k + 1)) ((x + L[k].toNat) % 65521) ((y + (x + L[k].toNat) % 65521) % 65521) = Sk.sumN L 1 0) := by
        have := HI.out
        rw [List.drop_eq_getElem_cons hlt, Sk.sumN] at this
        exact this
      clear HI
      generalize L[k].toNat = c at *
      go_wp2
      go_round
      case rel => exact ⟨k + 1, _, _, by omega, by go_num, by go_num, by go_num, Nat.mod_lt _ (by decide), Nat.mod_lt _ (by decide), HI2.out⟩
      case measure => simp [intOf]; omega
    · have HI2 : Hid ((x, y) = Sk.sumN L 1 0) := by
        have := HI.out
        rw [List.drop_of_length_le (by omega), Sk.sumN] at this
        exact this
      go_wp2
      go_ret
      exact ⟨ret_int (by unfold Sk.sumOf; rw [← HI2.out]; omega), rfl⟩

/-- A string's bytes as a slice of the call's own: what the conversion leaves. -/
theorem conv_any (s : ByteArray) : ∃ (F : World → World) (c : World → Nat), (∀ W, (convert 9 53 (.string s)).run Tryd.prog W = .ok (.slice (some ⟨W.heap.size, 0, none⟩) s.size (c W)) (F W)) ∧
    (∀ W, Below W.heap.size W (F W)) ∧ ∀ W j (h : j < s.data.toList.length), (F W).cell? ⟨W.heap.size, j, none⟩ = some (cellOf s.data.toList[j]) := by
  refine ⟨fun W => Lib.bytesWorld W 5 s, fun W => grownCap W s.size 0 5, fun W => Lib.run_convert_string_bytes W 9 53 5 s Tryd.underlying9 Tryd.underlying53 Tryd.underlying5, fun W => ?_, fun W j h => ?_⟩
  · exact Lib.below_freeze (((Below.refl _ W).drew).alloc (Nat.le_refl _) _) (p := ⟨W.heap.size, _, none⟩) (Nat.le_refl _) _
  · rw [Lib.bytesWorld_cell W 5 s j (by simpa using h)]
    unfold cellOf
    rw [List.getD_eq_getElem?_getD, List.getElem?_eq_getElem h]
    rfl

theorem sub_extract (s : ByteArray) (a m : Nat) (h : a + m ≤ s.size) : (s.extract a s.size).extract 0 m = ⟨(Sk.sub s.data.toList a (a + m)).toArray⟩ := by
  apply ByteArray.ext
  apply Array.ext'
  simp only [ByteArray.data_extract, Array.toList_extract, Sk.sub, List.extract]
  rw [List.drop_zero, List.take_take]
  congr 1
  omega

set_option maxRecDepth 100000 in
set_option maxHeartbeats 4000000 in
theorem unpackBlock_any (B g : Nat) (s : ByteArray) (v : Value) (bs : List Sk.Blk) (d : Nat) (v0 : Value) (pre out : List UInt8) (n : Nat) (a5 : Addr) (w : World) (hP : PFile w B g s v bs d) (hG : Sk.Good s.data.toList bs d) (hs : s.size ≤ 65536) (hn : n < bs.length) (hb : Bts w v0 (pre ++ out)) (hl : pre.length + out.length ≤ 100000)
    (h5 : w.cell? ⟨5, 0, none⟩ = some (.iface 170 (.pointer (some a5)))) :
    Calls Tryd.prog 72 #[.pointer (some ⟨g, 0, none⟩), v0, .int .i64 pre.length, .int .i64 n] w fun e w' =>
      (∀ o, Sk.atB s.data.toList (Sk.bk bs n) n out = .good o → ∃ v', e = .returned (.tuple #[v', .nilIface]) ∧ Bts w' v' (pre ++ o) ∧ Gr w v0 w' v') ∧
      (∀ k, Sk.atB s.data.toList (Sk.bk bs n) n out = .bad 6 k → e = .returned (.tuple #[.slice none 0 0, .iface 170 (.pointer (some a5))]) ∧ Gr w v0 w' v0) ∧
      (∀ k, Sk.atB s.data.toList (Sk.bk bs n) n out = .bad 7 k → ∃ h i v', e = .returned (.tuple #[.slice none 0 0, .iface 161 (.pointer (some ⟨h, 0, none⟩))]) ∧ w'.heap[h]? = some (.cells #[.int .i64 i] 163 (0, 0)) ∧ w.heap.size ≤ h ∧ Gr w v0 w' v') := by
  obtain ⟨vo, vcap, rfl⟩ := hP.row.form
  obtain ⟨a, rfl, ha, hc⟩ := hP.entry n hn
  have hins := hG.ins n hn
  have hsz := hG.siz n hn
  have c0 := hP.cell 0
  have c2 := hP.cell 2
  simp at c0 c2
  have hgl := hP.lt
  have x0 := hc 0 (by decide)
  have x1 := hc 1 (by decide)
  have x2 := hc 2 (by decide)
  have x3 := hc 3 (by decide)
  have x4 := hc 4 (by decide)
  have x5 := hc 5 (by decide)
  simp only [Nat.add_zero] at x0
  clear hP hG hc
  generalize Sk.bk bs n = b at *
  obtain ⟨b0, b1, b2, b3⟩ := b
  obtain ⟨m, hm⟩ : ∃ m, m = Sk.numAt s.data.toList (b2 + 3) 2 := ⟨_, rfl⟩
  obtain ⟨x, hx⟩ : ∃ x, x = Sk.numAt s.data.toList (b2 + 5) 4 := ⟨_, rfl⟩
  have hin : b2 + 9 + m ≤ s.size := by
    have := hins.2
    rw [hm]
    have e : s.data.toList.length = s.size := Array.length_toList
    simp only at this
    omega
  obtain ⟨P, hPk⟩ : ∃ P, P = Sk.sub s.data.toList (b2 + 9) (b2 + 9 + m) := ⟨_, rfl⟩
  have hPl : P.length = m := by rw [hPk, Sk.sub_length _ _ _ (by rw [show s.data.toList.length = s.size from Array.length_toList]; exact hin)]; omega
  have hm6 : m < 65536 := by rw [hm]; exact Sk.numAt_lt _ 2 _
  have hx6 : x < 4294967296 := by rw [hx]; exact Sk.numAt_lt _ 4 _
  have HP : Hid (Sk.packedOf s.data.toList ⟨b0, b1, b2, b3⟩ = P) := by show Sk.sub s.data.toList (b2 + 9) (b2 + 9 + Sk.numAt s.data.toList (b2 + 3) 2) = P; rw [← hm, hPk]
  have hstr : (s.extract (b2 + 9) s.size).extract 0 m = ⟨P.toArray⟩ := by rw [hPk]; exact sub_extract s (b2 + 9) m hin
  have HSTR : Hid ((s.extract (b2 + 9) s.size).extract 0 m = ⟨P.toArray⟩) := hstr
  have HPL : Hid (P.length = m) := hPl
  have h6 : Sk.sumOf P ≠ x → Sk.atB s.data.toList ⟨b0, b1, b2, b3⟩ n out = .bad 6 n := fun h => by
    unfold Sk.atB
    rw [HP.out]
    dsimp only
    rw [← hx, if_neg h]
  have h7 : Sk.sumOf P = x → Sk.unp P b1 out = none → Sk.atB s.data.toList ⟨b0, b1, b2, b3⟩ n out = .bad 7 n := fun h hu => by
    unfold Sk.atB
    rw [HP.out]
    dsimp only
    rw [← hx, if_pos h, hu]
  have h0 : Sk.sumOf P = x → ∀ o, Sk.unp P b1 out = some o → Sk.atB s.data.toList ⟨b0, b1, b2, b3⟩ n out = .good o := fun h o hu => by
    unfold Sk.atB
    rw [HP.out]
    dsimp only
    rw [← hx, if_pos h, hu]
  have H6 : Hid (Sk.sumOf P ≠ x → Sk.atB s.data.toList ⟨b0, b1, b2, b3⟩ n out = .bad 6 n) := h6
  have H7 : Hid (Sk.sumOf P = x → Sk.unp P b1 out = none → Sk.atB s.data.toList ⟨b0, b1, b2, b3⟩ n out = .bad 7 n) := h7
  have H0 : Hid (Sk.sumOf P = x → ∀ o, Sk.unp P b1 out = some o → Sk.atB s.data.toList ⟨b0, b1, b2, b3⟩ n out = .good o) := h0
  clear h6 h7 h0
  generalize Sk.atB s.data.toList ⟨b0, b1, b2, b3⟩ n out = G at H6 H7 H0 ⊢
  simp only [Sk.cells6, ← hm, ← hx] at x0 x1 x2 x3 x4 x5
  simp at x0 x1 x2 x3 x4 x5
  obtain ⟨F, cp, hF, hFB, hFC⟩ := conv_any ⟨P.toArray⟩
  have HFB : Hid (∀ W, Below W.heap.size W (F W)) := hFB
  have HFC : Hid (∀ W j (h : j < P.length), (F W).cell? ⟨W.heap.size, j, none⟩ = some (cellOf P[j])) := hFC
  have hsx := sumOf_lt P
  have HB : Hid (Bts w v0 (pre ++ out)) := hb
  have hF2 : ∀ W, (convert 9 53 (.string ⟨P.toArray⟩)).run Tryd.prog W = .ok (.slice (some ⟨W.heap.size, 0, none⟩) P.length (cp W)) (F W) := fun W => hF W
  have hFo : ∀ W, w.heap.size < W.heap.size → (F W).cell? ⟨w.heap.size, 5, none⟩ = W.cell? ⟨w.heap.size, 5, none⟩ := fun W h => (hFB W).cell (p := ⟨w.heap.size, 5, none⟩) h
  clear hF
  clear hb hins hm hx hPk hPl hstr hFB hFC
  dsimp only at hsz
  obtain ⟨y, hy⟩ : ∃ y, y = Sk.sumOf P := ⟨_, rfl⟩
  have HY : Hid (Sk.sumOf P = y) := hy.symm
  rw [← hy] at hsx
  have l5 := cell_lt h5
  clear hy
  obtain ⟨hsz1, hsz2⟩ := hsz
  have hpi : (b2 : Int) + 9 ≤ (s.size : Int) := by omega
  have hpm : (m : Int) ≤ (s.size : Int) - ((b2 : Int) + 9) := by omega
  have hex : (s.extract (b2 + 9) s.size).size = s.size - (b2 + 9) := by rw [ByteArray.size_extract]; omega
  have hni : (n : Int) < (bs.length : Int) := by omega
  go_enter Tryd.func72, Tryd.ntmps72
  go_wp2_with fail
  go_quiet (fail)
  rw [HSTR.out]
  go_wp2_with fail
  have HB1 : Hid (Below w.heap.size w ((w.alloc (.cells #[.int .i64 b0, .int .i64 b1, .int .i64 b2, .bool b3, .int .i64 m, .int .u32 x] 80)).drewN nq)) := below_drewN ((Below.refl _ _).alloc (Nat.le_refl _) _) nq
  have e1 : ((w.alloc (.cells #[.int .i64 b0, .int .i64 b1, .int .i64 b2, .bool b3, .int .i64 m, .int .u32 x] 80)).drewN nq).cell? ⟨w.heap.size, 1, none⟩ = some (.int .i64 b1) := by simp
  have e5 : ((w.alloc (.cells #[.int .i64 b0, .int .i64 b1, .int .i64 b2, .bool b3, .int .i64 m, .int .u32 x] 80)).drewN nq).cell? ⟨w.heap.size, 5, none⟩ = some (.int .u32 x) := by simp
  have hz1 : w.heap.size < ((w.alloc (.cells #[.int .i64 b0, .int .i64 b1, .int .i64 b2, .bool b3, .int .i64 m, .int .u32 x] 80)).drewN nq).heap.size := by simp
  have hcellW : ((w.alloc (.cells #[.int .i64 b0, .int .i64 b1, .int .i64 b2, .bool b3, .int .i64 m, .int .u32 x] 80)).drewN nq).heap[w.heap.size]? = some (.cells #[.int .i64 b0, .int .i64 b1, .int .i64 b2, .bool b3, .int .i64 m, .int .u32 x] 80 (0, 0)) := heap_alloc_new w _
  have HCW : Hid (((w.alloc (.cells #[.int .i64 b0, .int .i64 b1, .int .i64 b2, .bool b3, .int .i64 m, .int .u32 x] 80)).drewN nq).heap[w.heap.size]? = some (.cells #[.int .i64 b0, .int .i64 b1, .int .i64 b2, .bool b3, .int .i64 m, .int .u32 x] 80 (0, 0))) := hcellW
  clear hcellW
  generalize (w.alloc (.cells #[.int .i64 b0, .int .i64 b1, .int .i64 b2, .bool b3, .int .i64 m, .int .u32 x] 80)).drewN nq = W1 at HB1 e1 e5 hz1 HCW ⊢
  clear x0 x1 x2 x3 x4 x5 c0 c2
  have o1 : (F W1.drew).cell? ⟨w.heap.size, 5, none⟩ = some (.int .u32 x) := (hFo W1.drew hz1).trans e5
  have o2 : (F W1).cell? ⟨w.heap.size, 5, none⟩ = some (.int .u32 x) := (hFo W1 hz1).trans e5
  have HB2 : Hid (Below W1.heap.size W1 (F W1.drew)) := (Below.refl _ _).drew.trans (HFB.out W1.drew)
  clear hFo
  by_cases hyx : y = x
  · subst hyx
    have hne : ((y : Int) != (y : Int)) = false := by simp
    go_region_with (go_at_call 81; refine (hdrSum_cells _ _ P _ (fun j h => HFC.out _ j h) (by have := HPL.out; omega)).mono ?_; rw [HY.out]; rintro e w' ⟨rfl, rfl⟩)
    all_goals
      have HBW : Hid (Below w.heap.size w (F W1.drew)) := HB1.out.trans (HB2.out.mono HB1.out.size)
      have q1 : (F W1.drew).cell? ⟨w.heap.size, 1, none⟩ = some (.int .i64 b1) := (HB2.out.cell (p := ⟨w.heap.size, 1, none⟩) hz1).trans e1
      have hz2 : w.heap.size < (F W1.drew).heap.size := by have := HB2.out.size; omega
      clear o1 o2 e1 e5 hF2
      generalize F W1.drew = W2 at HBW q1 hz2 ⊢
      go_wp2_with fail
      refine (unpack_any v0 pre out ⟨P.toArray⟩ b1 W2 (HB.out.below HBW.out) hl (by omega) (by show P.toArray.size ≤ 100000; have := HPL.out; simp; omega)).mono ?_
      rintro e W3 ⟨u1, u2⟩
      have U1 : Hid (∀ o, Sk.unp P b1 out = some o → ∃ v', e = .returned (.tuple #[v', .nilIface]) ∧ Bts W3 v' (pre ++ o) ∧ Gr W2 v0 W3 v') := u1
      have U2 : Hid (Sk.unp P b1 out = none → ∃ h i v', e = .returned (.tuple #[.slice none 0 0, .iface 161 (.pointer (some ⟨h, 0, none⟩))]) ∧ W3.heap[h]? = some (.cells #[.int .i64 i] 163 (0, 0)) ∧ W2.heap.size ≤ h ∧ Gr W2 v0 W3 v') := u2
      clear u1 u2
      cases hu : Sk.unp P b1 out with
      | some o =>
        obtain ⟨v', rfl, hb', hg'⟩ := U1.out o hu
        have HGD : Hid (G = .good o) := H0.out HY.out o hu
        have HB3 : Hid (Bts W3 v' (pre ++ o)) := hb'
        have HG3 : Hid (Gr w v0 W3 v') := hg'.after HBW.out
        clear hb' hg' hu
        go_wp2
        go_ret2
        refine ⟨fun o' ho => ?_, (fun k hk => by rw [HGD.out] at hk; cases hk), (fun k hk => by rw [HGD.out] at hk; cases hk)⟩
        rw [HGD.out] at ho
        cases ho
        exact ⟨v', rfl, HB3.out, HG3.out⟩
      | none =>
        obtain ⟨h, i, v', rfl, hh, hle, hg'⟩ := U2.out hu
        have HGD : Hid (G = .bad 7 n) := H7.out HY.out hu
        have HHH : Hid (W3.heap[h]? = some (.cells #[.int .i64 i] 163 (0, 0))) := hh
        have HG3 : Hid (Gr w v0 W3 v') := hg'.after HBW.out
        have hle2 : w.heap.size ≤ h := by omega
        clear hh hg' hu
        go_wp2
        go_ret2
        exact ⟨(fun o' ho => by rw [HGD.out] at ho; cases ho), (fun k hk => by rw [HGD.out] at hk; cases hk), fun _ _ => ⟨h, i, v', rfl, HHH.out, hle2, HG3.out⟩⟩
  · have hne : ((y : Int) != (x : Int)) = true := by simp; omega
    have HGD : Hid (G = .bad 6 n) := H6.out (by rw [HY.out]; exact hyx)
    go_region_with (go_at_call 81; refine (hdrSum_cells _ _ P _ (fun j h => HFC.out _ j h) (by have := HPL.out; omega)).mono ?_; rw [HY.out]; rintro e w' ⟨rfl, rfl⟩)
    all_goals
      have HBW : Hid (Below w.heap.size w (F W1.drew)) := HB1.out.trans (HB2.out.mono HB1.out.size)
      have q5 : (F W1.drew).cell? ⟨5, 0, none⟩ = some (.iface 170 (.pointer (some a5))) := (HBW.out.cell (p := ⟨5, 0, none⟩) l5).trans h5
      clear o1 o2 e1 e5 hF2
      generalize F W1.drew = W2 at HBW q5 ⊢
      go_wp2_with fail
      go_quiet (fail)
      go_wp2
      go_ret2
      exact ⟨(fun o' ho => by rw [HGD.out] at ho; cases ho), (fun k hk => ⟨rfl, (Gr.refl w v0).then_below (below_drewN HBW.out _)⟩), (fun k hk => by rw [HGD.out] at hk; cases hk)⟩
end Go.Proofs.YtafkpmjifgohcaaDoor
