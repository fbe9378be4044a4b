/- The law Along, walked: whatever the input, it returns true. -/
import Derived.Test.YtafkpmjifgohcaaDoorAlongPart19
import Derived.Test.YtafkpmjifgohcaaDoorAlongPart24
import Derived.Test.YtafkpmjifgohcaaDoorAlongPart17
namespace Go.Proofs.YtafkpmjifgohcaaDoor
open Go.RowKit Go.Shelf
attribute [local go_sem] Oper.semAt_some

/-- A function that is there is not nil. -/
theorem eq_func (fn : Fn) (cap : Array Value) (W : World) : (binOp .eql 73 (.func fn #[] cap) .nilFunc).run Tryd.prog W = .ok (.bool false) W := by
  have h := Tryd.underlying73
  have e : Op.maxDepth = (Op.maxDepth - 1) + 1 := by decide
  simp only [binOp, Op.equal]
  rw [e]
  unfold Op.equalIn
  simp [go_sem, run_underlying h]

/-- Three variables in a row, written. -/
theorem three_set {W w3 : World} {z : Nat} {x y u a b c : Value} {tx ty tu : TypeId} (h1 : Var W z x tx) (h2 : Var W (z + 1) y ty) (h3 : Var W (z + 2) u tu) (h4 : Below z w3 W) :
    Fr (fun k => z ≤ k ∧ k ≤ z + 2) W (((W.setCell ⟨z + 2, 0, none⟩ a).setCell ⟨z + 1, 0, none⟩ b).setCell ⟨z, 0, none⟩ c) ∧
    Var (((W.setCell ⟨z + 2, 0, none⟩ a).setCell ⟨z + 1, 0, none⟩ b).setCell ⟨z, 0, none⟩ c) z c tx ∧ Var (((W.setCell ⟨z + 2, 0, none⟩ a).setCell ⟨z + 1, 0, none⟩ b).setCell ⟨z, 0, none⟩ c) (z + 1) b ty ∧ Var (((W.setCell ⟨z + 2, 0, none⟩ a).setCell ⟨z + 1, 0, none⟩ b).setCell ⟨z, 0, none⟩ c) (z + 2) a tu ∧
    Below z w3 (((W.setCell ⟨z + 2, 0, none⟩ a).setCell ⟨z + 1, 0, none⟩ b).setCell ⟨z, 0, none⟩ c) := by
  have oth : ∀ (V : World) (q q' : Nat) (x y : Value) (t : TypeId), Var V q x t → q ≠ q' → Var (V.setCell ⟨q', 0, none⟩ y) q x t := fun V q q' x y t h hne => (heap_setCell_ne V ⟨q', 0, none⟩ y q hne).trans h
  refine ⟨?_, ?_, ?_, ?_, ?_⟩
  · exact (((fr_setCell W ⟨z + 2, 0, none⟩ a).mono (fun k hk => by have : k = z + 2 := hk; omega)).then (fr_setCell _ ⟨z + 1, 0, none⟩ b) (fun k _ hk => by have : k = z + 1 := hk; omega)).then (fr_setCell _ ⟨z, 0, none⟩ c) (fun k _ hk => by have : k = z := hk; omega)
  · exact (oth _ _ _ _ _ _ (oth _ _ _ _ _ _ h1 (by omega)) (by omega)).set c
  · exact oth _ _ _ _ _ _ ((oth _ _ _ _ _ _ h2 (by omega)).set b) (by omega)
  · exact oth _ _ _ _ _ _ (oth _ _ _ _ _ _ (h3.set a) (by omega)) (by omega)
  · exact ((h4.setCell (p := ⟨z + 2, 0, none⟩) (by show z ≤ z + 2; omega) a).setCell (p := ⟨z + 1, 0, none⟩) (by show z ≤ z + 1; omega) b).setCell (p := ⟨z, 0, none⟩) (Nat.le_refl _) c

/-- What comes of a packed file from a place on: the chunks, what is put together, and the last number. -/
theorem along_seq (t : ByteArray) (bl el B g n : Nat) (v : Value) (A : Nat → Addr) (w w3 w5 : World) (ht : t.size ≤ 500) (hbl1 : 1 ≤ bl) (hbl2 : bl ≤ 1024) (hS : SentB w A w.heap.size) (hb3 : Below w.heap.size w w3)
    (hP : PFile w3 B g ⟨(Sk.fileOf t.data.toList bl el).toArray⟩ v (Sk.fblk t.data.toList bl el t.size 0 0 3) t.size) (hb5 : Below w3.heap.size w3 w5) (hz5 : w5.heap.size = w3.heap.size + 5)
    (hq1 : Var w5 (w3.heap.size + 3) (.pointer (some ⟨g, 0, none⟩)) 32) (hq2 : Var w5 (w3.heap.size + 3 + 1) (.int .i64 ((n : Int) - 1)) 3) :
    ∃ (cs : List (Nat × List UInt8)) (Sf : Nat → ByteArray) (Lf : Nat → Int),
      (∀ W, Below w5.heap.size w5 W → W.heap.size = w5.heap.size + 2 → Yields Tryd.prog 53 #[.pointer (some ⟨w3.heap.size + 3 + 1, 0, none⟩), .pointer (some ⟨w3.heap.size + 3, 0, none⟩)] encC cs (fun b => w3.heap.size ≤ b ∧ b ≤ w3.heap.size + 2) W) ∧
      Sf 0 = ⟨#[]⟩ ∧ Lf 0 = -1 ∧
      (∀ i x, cs[i]? = some x → (Lf i < 0 ∨ (x.1 : Int) = Lf i + 1) ∧ x.2 ≠ [] ∧ Sf (i + 1) = Sf i ++ ⟨x.2.toArray⟩ ∧ Lf (i + 1) = x.1 ∧ (Sf i).size ≤ 500 ∧ x.2.length ≤ 500 ∧ x.1 ≤ 20000 ∧ -1 ≤ Lf i ∧ Lf i ≤ 20000) ∧
      ((((n : Int) - 1 < 0 ∨ (t.size : Int) ≤ (n : Int) - 1) ∧ Sf cs.length = ⟨#[]⟩) ∨
        (0 ≤ (n : Int) - 1 ∧ (n : Int) - 1 < (t.size : Int) ∧ Sf cs.length = t.extract (n - 1) t.size ∧ Lf cs.length = ((Sk.fblk t.data.toList bl el t.size 0 0 3).length : Int) - 1)) := by
  have htl : t.data.toList.length = t.size := Array.length_toList
  have hfl := Sk.fileOf_length t.data.toList bl el hbl1
  have hop := Sk.openR_file t.data.toList bl el hbl1 hbl2 (by omega) (by omega)
  have hG : Sk.Good (Sk.fileOf t.data.toList bl el) (Sk.fblk t.data.toList bl el t.data.toList.length 0 0 3) t.data.toList.length := by
    have := Sk.openR_good (Sk.fileOf t.data.toList bl el)
    rw [hop] at this
    exact this
  have hda := Sk.openR_data (Sk.fileOf t.data.toList bl el)
  rw [hop] at hda
  have hlenB : (Sk.fblk t.data.toList bl el t.data.toList.length 0 0 3).length ≤ t.data.toList.length := hda.2
  have hin := fun j hj => Sk.fblk_in t.data.toList bl el hbl1 t.data.toList.length 0 0 3 j hj
  have hfk := fun j hj => Sk.fblk_k t.data.toList bl el hbl1 hbl2 (by omega) j hj
  have hcf := fun k p hk hp hp2 => Sk.chunks_file t.data.toList bl el hbl1 hbl2 (by omega) k p hk hp hp2
  have hle := fun k p i h1 h2 => Sk.eAt_le t.data.toList bl k p i h1 h2
  have hlt := fun k p i h1 h2 h3 => Sk.eAt_lt t.data.toList bl hbl1 k p i h1 h2 h3
  rw [← htl] at hP ⊢
  have hFz : (⟨(Sk.fileOf t.data.toList bl el).toArray⟩ : ByteArray).size ≤ 65536 := by
    show (Sk.fileOf t.data.toList bl el).toArray.size ≤ 65536
    simp
    omega
  have keepW : ∀ W, Below w5.heap.size w5 W → Below w3.heap.size w3 W := fun W hW => hb5.trans (hW.mono (by omega))
  by_cases hr : 1 ≤ n ∧ n - 1 < t.data.toList.length
  · obtain ⟨p, hp⟩ : ∃ p, p = n - 1 := ⟨_, rfl⟩
    have hpi : (n : Int) - 1 = (p : Int) := by omega
    rw [← hp]
    rw [hpi] at hq2 ⊢
    obtain ⟨k, k0, k1, k2⟩ := hG.find p (by omega)
    have hk' := hfk k k0
    have k1' : k * bl ≤ p := by rw [← hk'.2.1]; exact k1
    have k2' : p < (k + 1) * bl := by
      have h1 := k2
      rw [hk'.2.1, hk'.2.2.1] at h1
      have h2 : Sk.endOf t.data.toList bl k ≤ (k + 1) * bl := by
        have : (k + 1) * bl = k * bl + bl := Nat.succ_mul _ _
        simp only [Sk.endOf]
        omega
      omega
    obtain ⟨hcl, hcg⟩ := hcf k p k0 k1' k2'
    refine ⟨Sk.chunks (Sk.fileOf t.data.toList bl el) (Sk.fblk t.data.toList bl el t.data.toList.length 0 0 3) k p, fun i => ⟨(Sk.sub t.data.toList p (Sk.eAt bl t.data.toList.length k p i)).toArray⟩, fun i => if i = 0 then -1 else ((k + i - 1 : Nat) : Int), ?_, ?_, rfl, ?_, .inr ⟨by omega, by omega, ?_, ?_⟩⟩
    · intro W hW hWz
      have h3 := keepW W hW
      have hPW := hP.below h3
      refine yields_in B g (w3.heap.size + 3) (w3.heap.size + 3 + 1) k _ v _ _ p A w.heap.size _ W hPW ?_ hFz (by omega) (hq1.below hW) (hq2.below hW) ⟨k0, k1, k2⟩ (hS.below (hb3.trans (h3.mono hb3.size))) ?_
      · show Sk.Good (Sk.fileOf t.data.toList bl el).toArray.toList _ _
        rw [List.toList_toArray]
        exact hG
      · have hgl := hP.lt
        have hz := hb3.size
        refine ⟨fun b hb => by omega, ⟨by omega, by omega⟩, fun b hb => ?_, ⟨by omega, by omega⟩, ⟨by omega, by omega⟩, ⟨fun b hb => by omega, by omega⟩⟩
        have := hP.row.lt b hb
        exact ⟨by omega, by omega⟩
    · show (⟨(Sk.sub t.data.toList p (Sk.eAt bl t.data.toList.length k p 0)).toArray⟩ : ByteArray) = ⟨#[]⟩
      rw [show Sk.eAt bl t.data.toList.length k p 0 = p from rfl]
      unfold Sk.sub
      simp
    · intro i x hx
      have hi : i < (Sk.fblk t.data.toList bl el t.data.toList.length 0 0 3).length - k := by
        have := (List.getElem?_eq_some_iff.1 hx).1
        rwa [hcl] at this
      rw [hcg i hi] at hx
      cases hx
      have hin' := hin (k + i) (by omega)
      rw [Nat.zero_add] at hin'
      obtain ⟨a1, a2, a3⟩ := hle k p i k2' (by omega)
      have b1 := hlt k p i k2' (by omega) hin'
      obtain ⟨_, _, a4⟩ := hle k p (i + 1) k2' (by omega)
      have hsl : ∀ a b, b ≤ t.data.toList.length → (Sk.sub t.data.toList a b).length = b - a := fun a b h => Sk.sub_length _ _ _ h
      refine ⟨?_, ?_, ?_, ?_, ?_, ?_, ?_, ?_, ?_⟩
      · by_cases hi0 : i = 0
        · left; simp [hi0]
        · right
          simp only [if_neg hi0]
          omega
      · intro he
        have := congrArg List.length he
        rw [hsl _ _ a4, List.length_nil] at this
        omega
      · show (⟨(Sk.sub t.data.toList p (Sk.eAt bl t.data.toList.length k p (i + 1))).toArray⟩ : ByteArray) = ⟨(Sk.sub t.data.toList p (Sk.eAt bl t.data.toList.length k p i)).toArray⟩ ++ ⟨(Sk.sub t.data.toList (Sk.eAt bl t.data.toList.length k p i) (Sk.eAt bl t.data.toList.length k p (i + 1))).toArray⟩
        rw [← Sk.sub_join t.data.toList p _ _ a2 a1]
        apply ByteArray.ext
        simp [ByteArray.data_append]
      · simp only [if_neg (Nat.succ_ne_zero i)]
        omega
      · show (Sk.sub t.data.toList p (Sk.eAt bl t.data.toList.length k p i)).toArray.size ≤ 500
        rw [List.size_toArray, hsl _ _ a3]
        omega
      · show (Sk.sub t.data.toList _ _).length ≤ 500
        rw [hsl _ _ a4]
        omega
      · show k + i ≤ 20000
        omega
      · by_cases hi0 : i = 0
        · simp [hi0]
        · simp only [if_neg hi0]; omega
      · by_cases hi0 : i = 0
        · simp [hi0]
        · simp only [if_neg hi0]; omega
    · show (⟨(Sk.sub t.data.toList p (Sk.eAt bl t.data.toList.length k p (Sk.chunks (Sk.fileOf t.data.toList bl el) (Sk.fblk t.data.toList bl el t.data.toList.length 0 0 3) k p).length)).toArray⟩ : ByteArray) = _
      rw [hcl, extract_sub]
      have hlast := hfk ((Sk.fblk t.data.toList bl el t.data.toList.length 0 0 3).length - 1) (by omega)
      have e1 : Sk.eAt bl t.data.toList.length k p ((Sk.fblk t.data.toList bl el t.data.toList.length 0 0 3).length - k) = t.data.toList.length := by
        unfold Sk.eAt
        rw [if_neg (by omega), show k + ((Sk.fblk t.data.toList bl el t.data.toList.length 0 0 3).length - k) = (Sk.fblk t.data.toList bl el t.data.toList.length 0 0 3).length by omega]
        have hl2 := hG.lst ((Sk.fblk t.data.toList bl el t.data.toList.length 0 0 3).length - 1) (by omega)
        rw [hlast.2.1, hlast.2.2.1] at hl2
        have h2 : Sk.endOf t.data.toList bl ((Sk.fblk t.data.toList bl el t.data.toList.length 0 0 3).length - 1) ≤ ((Sk.fblk t.data.toList bl el t.data.toList.length 0 0 3).length - 1 + 1) * bl := by
          have : ((Sk.fblk t.data.toList bl el t.data.toList.length 0 0 3).length - 1 + 1) * bl = ((Sk.fblk t.data.toList bl el t.data.toList.length 0 0 3).length - 1) * bl + bl := Nat.succ_mul _ _
          simp only [Sk.endOf]
          omega
        rw [show (Sk.fblk t.data.toList bl el t.data.toList.length 0 0 3).length - 1 + 1 = (Sk.fblk t.data.toList bl el t.data.toList.length 0 0 3).length by omega] at h2
        omega
      rw [e1]
    · rw [hcl]
      simp only [if_neg (show ¬ (Sk.fblk t.data.toList bl el t.data.toList.length 0 0 3).length - k = 0 by omega)]
      omega
  · refine ⟨[], fun _ => ⟨#[]⟩, fun _ => -1, ?_, rfl, rfl, (fun i x hx => by simp at hx), .inl ⟨by omega, rfl⟩⟩
    intro W hW _
    exact yields_out B g (w3.heap.size + 3) (w3.heap.size + 3 + 1) _ v _ _ _ _ W (hP.below (keepW W hW)) (hq1.below hW) (hq2.below hW) (by omega)

set_option maxRecDepth 100000 in
set_option maxHeartbeats 4000000 in
theorem along_law (s : ByteArray) (sz ev fr : Int) (A : Nat → Addr) (w : World) (hsz : Fits sz) (hev : Fits ev) (hfr : Fits fr) (hS : SentB w A w.heap.size) :
    Calls Tryd.prog 11 #[.string s, .int .i64 sz, .int .i64 ev, .int .i64 fr] w fun e w' => e = .returned (.bool true) ∧ Below w.heap.size w w' := by
  have HS : Hid (SentB w A w.heap.size) := hS
  have HSZ : Hid (Fits sz) := hsz
  have HEV : Hid (Fits ev) := hev
  have HFR : Hid (Fits fr) := hfr
  clear hS hsz hev hfr
  refine (callsIn_wide (n := 0)).1 (callsIn_of_wp_marks Tryd.func11 rfl trivial ?_ rfl)
  refine wpIn_wide.2 ?_
  simp only [Tryd.ntmps11, List.size_toArray, List.length_cons, List.length_nil, Nat.reduceAdd, Nat.reduceSub, Array.replicate_succ, Array.replicate_zero, List.push_toArray, List.append_toArray, List.nil_append, List.cons_append]
  go_wp2_with fail
  refine (awake_any A w HS.out.errs).mono ?_
  rintro e w1 ⟨rfl, hb1⟩
  have HB1 : Hid (Below w.heap.size w w1) := hb1
  clear hb1
  go_wp2_with fail
  refine (short_any s 500 w1 (by decide)).mono ?_
  rintro e w2 ⟨t, ht, rfl, hw2⟩
  rw [hw2]
  clear hw2 w2
  go_wp2_with fail
  refine (pickK_any sz 60 w1 HSZ.out (by decide) (by decide)).mono ?_
  rintro e w2 ⟨k, hk, rfl, hw2⟩
  rw [hw2]
  clear hw2 w2
  go_wp2_with fail
  refine (pickK_any ev 5 w1 HEV.out (by decide) (by decide)).mono ?_
  rintro e w2 ⟨k', hk', rfl, hw2⟩
  rw [hw2]
  clear hw2 w2
  go_wp2_with fail
  obtain ⟨bl, hbl⟩ : ∃ bl : Nat, (1 : Int) + (k : Int) = (bl : Int) ∧ bl = 1 + k := ⟨1 + k, by omega, rfl⟩
  obtain ⟨el, hel⟩ : ∃ el : Nat, (1 : Int) + (k' : Int) = (el : Int) ∧ el = 1 + k' := ⟨1 + k', by omega, rfl⟩
  rw [hbl.1, hel.1]
  have hbl1 : 1 ≤ bl := by omega
  have hbl2 : bl ≤ 1024 := by omega
  have hel1 : 1 ≤ el := by omega
  have hel2 : el ≤ 100 := by omega
  clear hbl hel
  refine (fileK_any t bl el A w1 (HS.out.below HB1.out).errs (by omega) hbl1 hbl2 hel1 hel2).mono ?_
  rintro e w3 ⟨hb3, g, v, rfl, hpf⟩
  have HB3 : Hid (Below w.heap.size w w3) := HB1.out.trans (hb3.mono HB1.out.size)
  have HPF : Hid (PFile w3 w1.heap.size g ⟨(Sk.fileOf t.data.toList bl el).toArray⟩ v (Sk.fblk t.data.toList bl el t.size 0 0 3) t.size) := hpf
  clear hb3 hpf
  go_wp2_with fail
  refine (pickK_at fr _ (t.size + 3) w3 (by omega) HFR.out (by omega) (by omega)).mono ?_
  rintro e w4 ⟨n, hn, rfl, hw4⟩
  rw [hw4]
  clear hw4 w4
  go_wp2_with fail
  obtain ⟨wa, hwa⟩ : ∃ wa, wa = ((w3.alloc (.cells #[.string ⟨#[]⟩] 9)).alloc (.cells #[.int .i64 (-1)] 3)).alloc (.cells #[.bool true] 4) := ⟨_, rfl⟩
  rw [← hwa]
  have hza : wa.heap.size = w3.heap.size + 3 := by rw [hwa]; simp
  have HA1 : Hid (Below w3.heap.size w3 wa) := by rw [hwa]; exact (((Below.refl _ _).alloc (Nat.le_refl _) _).alloc (by simp) _).alloc (by simp; omega) _
  have HV1 : Hid (Var wa w3.heap.size (.string ⟨#[]⟩) 9) := by
    rw [hwa]
    exact ((Var.new w3 _ _).below ((Below.refl _ _).alloc (Nat.le_refl _) _)).below ((Below.refl _ _).alloc (Nat.le_refl _) _)
  have HV2 : Hid (Var wa (w3.heap.size + 1) (.int .i64 (-1)) 3) := by
    rw [hwa]
    have := (Var.new (w3.alloc (.cells #[.string ⟨#[]⟩] 9)) (.int .i64 (-1)) 3).below ((Below.refl _ _).alloc (Nat.le_refl _) (.cells #[.bool true] 4))
    rwa [World.size_alloc] at this
  have HV3 : Hid (Var wa (w3.heap.size + 2) (.bool true) 4) := by
    rw [hwa]
    have := Var.new ((w3.alloc (.cells #[.string ⟨#[]⟩] 9)).alloc (.cells #[.int .i64 (-1)] 3)) (.bool true) 4
    rwa [World.size_alloc, World.size_alloc] at this
  clear hwa
  refine (chunks_call g _ wa).mono ?_
  rintro e w5 ⟨rfl, hb5, hq1, hq2, hz5⟩
  have HB5 : Hid (Below wa.heap.size wa w5) := hb5
  have HQ1 : Hid (Var w5 wa.heap.size (.pointer (some ⟨g, 0, none⟩)) 32) := hq1
  have HQ2 : Hid (Var w5 (wa.heap.size + 1) (.int .i64 ((n : Int) - 1)) 3) := hq2
  clear hb5 hq1 hq2
  have hef := eq_func
  go_wp2_with fail
  clear hef
  obtain ⟨cs, Sf, Lf, hyl, hs0, hl0, hstep, hfin⟩ := along_seq t bl el w1.heap.size g n v A w w3 w5 ht hbl1 hbl2 HS.out HB3.out HPF.out (HA1.out.trans (HB5.out.mono (by omega))) (by omega) (by rw [← hza]; exact HQ1.out) (by rw [← hza]; exact HQ2.out)
  have hbw5 : Below w3.heap.size w3 w5 := HA1.out.trans (HB5.out.mono (by omega))
  refine wpIn_wide.1 (range_law (n := 0) (a₁ := ?_) rfl (enters_of Tryd.func53 (by kernel_rfl) rfl) (X := fun b => w3.heap.size ≤ b ∧ b ≤ w3.heap.size + 2) (fun b hb => by omega) hyl (fun _ => rfl)
    (fun i W => Var W w3.heap.size (.string (Sf i)) 9 ∧ Var W (w3.heap.size + 1) (.int .i64 (Lf i)) 3 ∧ Var W (w3.heap.size + 2) (.bool true) 4 ∧ Below w3.heap.size w3 W) (fun _ _ _ => False) ?hI (fun _ _ _ _ h _ => h) ?h0 ?assign ?body ?done (fun _ _ _ _ _ _ h _ => h.elim))
  case assign =>
    intro m l x W K hK
    simp only [encC]
    gi_wp2
    exact hK
  case hI =>
    rintro i W W' ⟨h1, h2, h3, h4⟩ hb
    exact ⟨(hb.block _ (by omega)).trans h1, (hb.block _ (by omega)).trans h2, (hb.block _ (by omega)).trans h3, h4.trans (hb.mono (by omega))⟩
  case h0 =>
    rw [hs0, hl0]
    exact ⟨HV1.out.below HB5.out, HV2.out.below HB5.out, HV3.out.below HB5.out, hbw5⟩
  case body =>
    rintro m l i ⟨n1, x2⟩ W hx ⟨h1, h2, h3, h4⟩ hWz
    obtain ⟨s1, s2, s3, s4, s5, s6, s7, s8, s9⟩ := hstep i _ hx
    dsimp only at s1 s2 s3 s4 s6 s7
    have d1 := h1.cell
    have d2 := h2.cell
    have d3 : W.cell? ⟨w3.heap.size + 1 + 1, 0, none⟩ = some (.bool true) := h3.cell
    have f1 := h1.free
    have f2 := h2.free
    have f3 : W.frozen? ⟨w3.heap.size + 1 + 1, 0, none⟩ = false := h3.free
    have hem : x2.isEmpty = false := by cases x2 with | nil => exact absurd rfl s2 | cons _ _ => rfl
    show _
    by_cases hneg : Lf i < 0
    · gi_wp2
      rw [← s3, ← s4]
      exact three_set h1 h2 h3 h4
    · have hnn : (0 : Int) ≤ Lf i := by omega
      have hnx : (n1 : Int) = Lf i + 1 := by omega
      gi_wp2
      rw [← s3, ← hnx, ← s4]
      exact three_set h1 h2 h3 h4
  case done =>
    rintro D W hD ⟨h1, h2, h3, h4⟩ hK
    have d1 := h1.cell
    have d2 := h2.cell
    have d3 : W.cell? ⟨w3.heap.size + 1 + 1, 0, none⟩ = some (.bool true) := h3.cell
    have HW4 : Hid (Below w3.heap.size w3 W) := h4
    have HK : Hid (W.heap[D]? = some (.deferred (some []))) := hK
    have HPW : Hid (PFile W w1.heap.size g ⟨(Sk.fileOf t.data.toList bl el).toArray⟩ v (Sk.fblk t.data.toList bl el t.size 0 0 3) t.size) := HPF.out.below h4
    have hlenB : (Sk.fblk t.data.toList bl el t.size 0 0 3).length ≤ 20000 := by
      have htl : t.data.toList.length = t.size := Array.length_toList
      have hfl := Sk.fileOf_length t.data.toList bl el hbl1
      have h1 := Sk.openR_file t.data.toList bl el hbl1 hbl2 (by omega) (by omega)
      have h2 := Sk.openR_data (Sk.fileOf t.data.toList bl el)
      rw [h1, htl] at h2
      have h3 : (Sk.fblk t.data.toList bl el t.size 0 0 3).length ≤ t.size := h2.2
      omega
    clear hK h4 hyl hstep h1 h2 h3
    generalize Sk.fblk t.data.toList bl el t.size 0 0 3 = bs at *
    have fin : ∀ W2, Below W.heap.size W W2 → Below w.heap.size w (W2.putObj D (.deferred none)) := fun W2 hW2 => by
      have h1 : Below w.heap.size w W2 := HB3.out.trans ((HW4.out.mono HB3.out.size).trans (hW2.mono (Nat.le_trans HB3.out.size HW4.out.size)))
      exact h1.trans ((fr_putObj W2 D _).below (Nat.le_trans HB3.out.size (Nat.le_trans HW4.out.size hW2.size)) (fun b hb => by have := HB3.out.size; omega))
    have HFIN : Hid (∀ W2, Below W.heap.size W W2 → Below w.heap.size w (W2.putObj D (.deferred none))) := fin
    clear fin
    rcases hfin with ⟨hr, hSf⟩ | ⟨r1, r2, hSf, hLf⟩
    · rw [hSf] at d1
      generalize Lf cs.length = lf at d2
      have hr2 : (n : Int) - 1 < 0 ∨ (0 ≤ (n : Int) - 1 ∧ (t.size : Int) ≤ (n : Int) - 1) := by omega
      clear hr hSf
      rcases hr2 with b1 | ⟨b1, b2⟩
      all_goals
        go_wp2_with fail
        refine (blocks_any W w1.heap.size g _ v bs t.size HPW.out hlenB).mono ?_
        rintro e w6 ⟨hb6, l, rfl, hl, _⟩
        obtain ⟨lo, lc, rfl⟩ := hl.form
        have HB6 : Hid (Below W.heap.size W w6) := hb6
        have e1 := (hb6.cell (p := ⟨w3.heap.size, 0, none⟩) (cell_lt d1)).trans d1
        have e2 := (hb6.cell (p := ⟨w3.heap.size + 1, 0, none⟩) (cell_lt d2)).trans d2
        have e3 := (hb6.cell (p := ⟨w3.heap.size + 1 + 1, 0, none⟩) (cell_lt d3)).trans d3
        have HK6 : Hid (w6.heap[D]? = some (.deferred (some []))) := (hb6.block D (Array.getElem?_eq_some_iff.1 HK.out).1).trans HK.out
        clear hb6 hl
        go_wp2
        refine ⟨by simp, .inl ⟨_, _, rfl, run_takeDeferred HK6.out, ?_⟩⟩
        exact ⟨_, results_tmp rfl _ _ _, rfl, HFIN.out w6 HB6.out⟩
    · rw [hSf] at d1
      rw [hLf] at d2
      have hn1 : (n : Int) - 1 = ((n - 1 : Nat) : Int) := by omega
      have hbs : 0 ≤ (bs.length : Int) := by omega
      clear hSf hLf
      go_wp2_with fail
      refine (blocks_any W w1.heap.size g _ v bs t.size HPW.out hlenB).mono ?_
      rintro e w6 ⟨hb6, l, rfl, hl, _⟩
      obtain ⟨lo, lc, rfl⟩ := hl.form
      have HB6 : Hid (Below W.heap.size W w6) := hb6
      have e1 := (hb6.cell (p := ⟨w3.heap.size, 0, none⟩) (cell_lt d1)).trans d1
      have e2 := (hb6.cell (p := ⟨w3.heap.size + 1, 0, none⟩) (cell_lt d2)).trans d2
      have e3 := (hb6.cell (p := ⟨w3.heap.size + 1 + 1, 0, none⟩) (cell_lt d3)).trans d3
      have HK6 : Hid (w6.heap[D]? = some (.deferred (some []))) := (hb6.block D (Array.getElem?_eq_some_iff.1 HK.out).1).trans HK.out
      clear hb6 hl
      go_wp2
      all_goals
        refine ⟨by simp, .inl ⟨_, _, rfl, run_takeDeferred HK6.out, ?_⟩⟩
        exact ⟨_, results_tmp rfl _ _ _, rfl, HFIN.out w6 HB6.out⟩
end Go.Proofs.YtafkpmjifgohcaaDoor
