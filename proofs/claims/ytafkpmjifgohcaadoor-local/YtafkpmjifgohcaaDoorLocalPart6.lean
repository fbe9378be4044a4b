/- packBlocks makes the document's file.
skipper.Pack answers as the document's function: the file, or the size error. -/
import Derived.Test.YtafkpmjifgohcaaDoorLocalPart4
import Derived.Test.YtafkpmjifgohcaaDoorHdrSum
import Derived.Test.YtafkpmjifgohcaaDoorLocalPart5
import Derived.Lib.SlBytesConst
namespace Go.Proofs.YtafkpmjifgohcaaDoor
open Go.RowKit

theorem tokPack_at (s : ByteArray) (R P T : Int) (r p t : Nat) (w : World) (hR : R = r) (hP : P = p) (hT : T = t) (hs : s.size ≤ 20000) (hr : r ≤ p) (hp : p ≤ t) (ht : t ≤ s.size) :
    Calls Tryd.prog 74 #[.string s, .int .i64 R, .int .i64 P, .int .i64 T] w fun e w' => ∃ v', e = .returned v' ∧ Bts w' v' (Sk.packR s.data.toList r p t) ∧ Gr w (.slice none 0 0) w' v' := by
  subst hR hP hT
  rw [← Sk.packP_eq s.data.toList r p t hp (by simpa using ht)]
  exact tokPack_any s r p t w hs hr hp ht

theorem hdrOf_at (f : Bool) (N : Int) (n : Nat) (v : Value) (L : List UInt8) (w : World) (hN : N = n) (hb : Bts w v L) (h0 : 0 < L.length) (hL : L.length ≤ 900000) :
    Calls Tryd.prog 75 #[.bool f, .int .i64 N, v] w fun e w' => e = .returned (.agg #[.bool f, .int .i64 n, .int .i64 L.length, .int .u32 (Sk.sumOf L)]) ∧ Below w.heap.size w w' := by
  subst hN
  exact hdrOf_any f n v L w hb h0 hL

/-- A slice's bytes as a string. -/
theorem str_bts (w : World) (v : Value) (L : List UInt8) (h : Bts w v L) (h0 : 0 < L.length) : (convert 53 9 v).run Tryd.prog w = .ok (.string ⟨L.toArray⟩) w := by
  rcases h with ⟨_, rfl⟩ | ⟨g, cap, rfl, h1, hg, h2, h3, h4⟩
  · cases h0
  · exact run_convert_bytes_back (P := Tryd.prog) w 53 9 5 ⟨g, 0, none⟩ cap L Tryd.underlying53 Tryd.underlying5 Tryd.underlying9 (fun j hj => by rw [add_plain]; exact h4 j hj)

/-- A slice of the call's own, in blocks from B on. -/
structure Own (B : Nat) (w : World) (v : Value) (L : List UInt8) : Prop where
  bts : Bts w v L
  low : ∀ g, v.ownBlock = some g → B ≤ g

theorem Own.gr {B : Nat} {w w' : World} {v v' : Value} {L L' : List UInt8} (h : Own B w v L) (hg : Gr w v w' v') (hb : Bts w' v' L') (hB : B ≤ w.heap.size) : Own B w' v' L' :=
  ⟨hb, fun g e => by
    rcases hg.own with ho | ⟨k, ho, hk⟩
    · exact h.low g (ho.symm.trans e)
    · rw [ho] at e; cases e; omega⟩

theorem gr_nil_below {w w' : World} {v' : Value} (h : Gr w (.slice none 0 0) w' v') : Below w.heap.size w w' := h.below (Nat.le_refl _) (fun k hk => by cases hk)
theorem gr_nil_low {w w' : World} {v' : Value} (h : Gr w (.slice none 0 0) w' v') : ∀ g, v'.ownBlock = some g → w.heap.size ≤ g := fun g e => by
  rcases h.own with ho | ⟨k, ho, hk⟩
  · rw [ho] at e; cases e
  · rw [ho] at e; cases e; exact hk

/-- What one block adds to the file: the world's part. -/
theorem blk_step {B : Nat} {w wr w2 w3 w4 w5 : World} {u v2 v4 v5 : Value} {out P H : List UInt8} (hw : Below B w wr) (hB : B ≤ wr.heap.size) (hu : Own B wr u out) (g2 : Gr wr (.slice none 0 0) w2 v2) (h3 : Below w2.heap.size w2 w3)
    (b4 : Bts w4 v4 (out ++ H)) (g4 : Gr w3 u w4 v4) (b5 : Bts w5 v5 (out ++ H ++ P)) (g5 : Gr w4 v4 w5 v5) : Own B w5 v5 (out ++ (H ++ P)) ∧ Below B w w5 := by
  have s2 := g2.size
  have s3 := h3.size
  have s4 := g4.size
  have hu3 : Own B w3 u out := ⟨(hu.bts.below (gr_nil_below g2)).below h3, hu.low⟩
  have hu4 := hu3.gr g4 b4 (by omega)
  have hu5 := hu4.gr g5 b5 (by omega)
  rw [List.append_assoc] at hu5
  refine ⟨hu5, ?_⟩
  exact (((hw.trans ((gr_nil_below g2).mono hB)).trans (h3.mono (by omega))).trans (g4.below (by omega) hu.low)).trans (g5.below (by omega) hu4.low)

theorem blk_kept {wr w2 w3 w4 : World} {u v2 v4 : Value} {out P : List UInt8} (hu : Bts wr u out) (g2 : Gr wr (.slice none 0 0) w2 v2) (b2 : Bts w2 v2 P) (h3 : Below w2.heap.size w2 w3) (g4 : Gr w3 u w4 v4) : Bts w4 v2 P :=
  (b2.below h3).other g4 (fun k hk e => by have := gr_nil_low g2 k hk; have := hu.lt k e.symm; omega)

theorem magic_bts (w : World) : Own w.heap.size (w.alloc (.cells #[.int .u8 83, .int .u8 75, .int .u8 49] 5 (3, 4))) (.slice (some ⟨w.heap.size, 0, none⟩) 3 3) [83, 75, 49] := by
  refine ⟨.inr ⟨w.heap.size, 3, rfl, by decide, by simp, fun j hj => ?_, fun j hj => ?_, fun j hj => ?_⟩, fun g e => by cases e; exact Nat.le_refl _⟩
  · rw [World.cell?_alloc_mark]
    simp [hj]
  · rw [World.frozen?_alloc_mark]
    simp
    omega
  · rw [World.cell?_alloc_mark]
    match j, hj with
    | 0, _ => rfl
    | 1, _ => rfl
    | 2, _ => rfl

set_option maxHeartbeats 1000000 in
theorem packBlocks_any (s : ByteArray) (block every : Nat) (w : World) (hs : s.size ≤ 20000) (hb1 : 1 ≤ block) (hb2 : block ≤ 1024) (he1 : 1 ≤ every) (he2 : every ≤ 100) :
    Calls Tryd.prog 56 #[.string s, .int .i64 block, .int .i64 every] w fun e w' => e = .returned (.string ⟨(Sk.fileOf s.data.toList block every).toArray⟩) ∧ Below w.heap.size w w' := by
  have kc := fun (w : World) (C : Array Value) (n c : Nat) => Lib.run_convert_bytes_const (P := Tryd.prog) w 53 5 C n c Tryd.underlying53 Tryd.underlying5
  have HM : Hid _ := magic_bts w
  have hlen : s.data.toList.length = s.size := Array.length_toList
  have HL : Hid (s.data.toList.length = s.size) := hlen
  clear hlen
  go_enter Tryd.func56, Tryd.ntmps56
  go_wp2
  clear kc
  go_loopw [7, 8, 9] (fun u a b wr => ∃ f k r p : Nat, ∃ out : List UInt8, p = k * block ∧ a = .int .i64 r ∧ b = .int .i64 p ∧ r ≤ p ∧ p ≤ s.size + block ∧ s.size ≤ k + f ∧ 3 ≤ out.length ∧ out.length ≤ 3 + 11 * min p s.size ∧ Own w.heap.size wr u out ∧ Below w.heap.size w wr ∧ Sk.blocksN s.data.toList block every f k r out = Sk.fileOf s.data.toList block every) (fun _ _ b _ => s.size - (intOf b).toNat)
  case atStart => exact ⟨s.size, 0, 0, 0, [83, 75, 49], by simp, rfl, rfl, by omega, by omega, by omega, by decide, by simp, HM.out, (Below.refl _ _).alloc (Nat.le_refl _) _, by rw [Sk.fileOf, HL.out]⟩
  case round =>
    obtain ⟨f, k, r, p, out, hp, rfl, rfl, hrp, hps, hkf, ho3, hol, hown, hbel, hinv⟩ := hrel
    have HP : Hid (p = k * block) := hp
    have HO : Hid (Own w.heap.size wr u7 out) := hown
    have HW : Hid (Below w.heap.size w wr) := hbel
    have HI : Hid (Sk.blocksN s.data.toList block every f k r out = Sk.fileOf s.data.toList block every) := hinv
    clear hp hown hbel hinv
    by_cases hlt : p < s.size
    · have hkp : k ≤ p := by rw [HP.out]; exact Nat.le_mul_of_pos_right _ hb1
      obtain ⟨f, rfl⟩ : ∃ j, f = j + 1 := ⟨f - 1, by omega⟩
      obtain ⟨t, ht⟩ : ∃ t, t = Sk.endOf s.data.toList block k := ⟨_, rfl⟩
      have ht' : t = min (p + block) s.size := by rw [ht, Sk.endOf, HL.out, ← HP.out]
      obtain ⟨b, hb⟩ : ∃ b, b = (k % every == 0) := ⟨_, rfl⟩
      obtain ⟨r', hr'⟩ : ∃ r', r' = Sk.fromOf block every k r := ⟨_, rfl⟩
      obtain ⟨P, hP⟩ : ∃ P, P = Sk.packR s.data.toList r' p t := ⟨_, rfl⟩
      have t1 : p < t := by omega
      have t2 : t ≤ s.size := by omega
      have t3 : t ≤ p + block := by omega
      have HT : Hid (t = min (p + block) s.size) := ht'
      have P1 : P.length ≤ 2 * (t - p) := by rw [hP]; exact Sk.packR_length _ _ _ _ (by omega) (by rw [HL.out]; exact t2)
      have P2 : 0 < P.length := by rw [hP]; exact Sk.packR_pos _ _ _ _ t1 (by rw [HL.out]; exact t2)
      have HPe : Hid (Sk.packR s.data.toList r' p t = P) := hP.symm
      have hsx := sumOf_lt P
      have HI2 : Hid (Sk.blocksN s.data.toList block every f (k + 1) r' (out ++ (Sk.hdr b (t - p) P.length (Sk.sumOf P) ++ P)) = Sk.fileOf s.data.toList block every) := by
        have := HI.out
        rw [Sk.blocksN, if_pos (by rw [HL.out, ← HP.out]; exact hlt), Sk.blockOf, ← hr', ← hb, ← HP.out, ← ht, ← hP] at this
        exact this
      have hq : (p : Int) / (block : Int) = (k : Int) := by
        have : p / block = k := by rw [HP.out]; exact Nat.mul_div_cancel _ hb1
        omega
      have hcase : (((k : Int) % (every : Int) == 0) = true ∧ b = true ∧ r' = p) ∨ (((k : Int) % (every : Int) == 0) = false ∧ b = false ∧ r' = r) := by
        by_cases hm : k % every = 0
        · refine .inl ⟨?_, by rw [hb]; simpa using hm, by rw [hr', Sk.fromOf, if_pos hm, HP.out]⟩
          rw [beq_iff_eq]; omega
        · refine .inr ⟨?_, by rw [hb]; simpa using hm, by rw [hr', Sk.fromOf, if_neg hm]⟩
          rw [beq_eq_false_iff_ne]; omega
      have hend : ((s.size : Int) < (p : Int) + block) ∨ ((p : Int) + block ≤ s.size) := by omega
      have hr2 : r' ≤ p := by rcases hcase with ⟨_, _, h⟩ | ⟨_, _, h⟩ <;> omega
      clear ht ht' hb hr' hP HI
      rcases hcase with ⟨hf, rfl, h⟩ | ⟨hf, rfl, h⟩
      all_goals
        have HRe : Hid (r' = _) := h
        clear h
        rcases hend with he | he
        all_goals
          go_wp2_with (first | (go_at_call 74; refine (tokPack_at s _ _ _ r' p t _ (by have := HRe.out; omega) rfl (by have := HT.out; omega) hs hr2 (by omega) t2).mono ?_; rw [HPe.out]; rintro e w2 ⟨v2, rfl, hb2, hg2⟩; have HB2 : Hid (Bts w2 v2 P) := hb2; have HG2 : Hid (Gr wr (.slice none 0 0) w2 v2) := hg2; clear hb2 hg2) | (go_at_call 75; refine (hdrOf_at _ _ (t - p) v2 P w2 (by have := HT.out; omega) HB2.out P2 (by omega)).mono ?_; rintro e w3 ⟨rfl, hb3⟩; have HB3 : Hid (Below w2.heap.size w2 w3) := hb3; clear hb3) | (go_at_call 76; refine (appendTo_any _ (t - p) P.length (Sk.sumOf P) u7 out w3 ((HO.out.bts.below (gr_nil_below HG2.out)).below HB3.out) (by omega) (by omega) (by omega) hsx).mono ?_; rintro e w4 ⟨v4, rfl, hb4, hg4⟩; have HB4 : Hid (Bts w4 v4 (out ++ Sk.hdr _ (t - p) P.length (Sk.sumOf P))) := hb4; have HG4 : Hid (Gr w3 u7 w4 v4) := hg4; clear hb4 hg4) | (at_builtin; refine wpList_append_bts rfl (.tmp 49) (.tmp 50) 53 rfl v4 v2 _ P rfl rfl HB4.out (src_bts _ _ _ (blk_kept HO.out.bts HG2.out HB2.out HB3.out HG4.out) P2) P2 (by rw [List.length_append, Sk.hdr_length]; omega) ?_; intro v5 w5 hb5 hg5; have HX : Hid _ := blk_step HW.out HW.out.size HO.out HG2.out HB3.out HB4.out HG4.out hb5 hg5; clear hb5 hg5))
          go_roundw
          case rel => exact ⟨f, k + 1, r', p + block, _, by rw [HP.out, Nat.succ_mul], by have := HRe.out; go_num, by go_num, by omega, by omega, by omega, by rw [List.length_append]; omega, by rw [List.length_append, List.length_append, Sk.hdr_length]; have := HT.out; omega, HX.out.1, HX.out.2, HI2.out⟩
          case measure => simp [intOf]; omega
    · have HI2 : Hid (out = Sk.fileOf s.data.toList block every) := by
        have := HI.out
        rw [Sk.blocksN_end _ _ _ _ _ _ _ (by rw [HL.out, ← HP.out]; exact hlt)] at this
        exact this
      have hcv := str_bts wr u7 out HO.out.bts (by omega)
      go_wp2
      go_ret
      exact ⟨ret_str HI2.out, HW.out⟩
end Go.Proofs.YtafkpmjifgohcaaDoor

namespace Go.Proofs.YtafkpmjifgohcaaDoor
open Go.RowKit

/-- What Pack answers: the file's bytes, or none (the size error). -/
def packOut (l : List UInt8) (B E : Int) : Option (List UInt8) :=
  if l.length ≤ 20000 ∧ 1 ≤ B ∧ B ≤ 1024 ∧ 1 ≤ E ∧ E ≤ 100 then (if (Sk.fileOf l B.toNat E.toNat).length ≤ 65536 then some (Sk.fileOf l B.toNat E.toNat) else none) else none

/-- The tests of Pack, in their order. -/
theorem pack_cases (n : Nat) (B E : Int) (h : ¬ (n ≤ 20000 ∧ 1 ≤ B ∧ B ≤ 1024 ∧ 1 ≤ E ∧ E ≤ 100)) :
    (20000 : Int) < n ∨ ((n : Int) ≤ 20000 ∧ B < 1) ∨ ((n : Int) ≤ 20000 ∧ 1 ≤ B ∧ 1024 < B) ∨ ((n : Int) ≤ 20000 ∧ 1 ≤ B ∧ B ≤ 1024 ∧ E < 1) ∨ ((n : Int) ≤ 20000 ∧ 1 ≤ B ∧ B ≤ 1024 ∧ 1 ≤ E ∧ 100 < E) := by omega

def errVal (a : Addr) : Value := .iface 170 (.pointer (some a))

set_option maxHeartbeats 800000 in
theorem pack_bad (s : ByteArray) (B E : Int) (a : Addr) (w : World) (ha : w.cell? ⟨0, 0, none⟩ = some (.iface 170 (.pointer (some a)))) (h : ¬ (s.size ≤ 20000 ∧ 1 ≤ B ∧ B ≤ 1024 ∧ 1 ≤ E ∧ E ≤ 100)) :
    Calls Tryd.prog 34 #[.string s, .int .i64 B, .int .i64 E] w fun e w' => e = .returned (.tuple #[.string ⟨#[]⟩, errVal a]) ∧ Below w.heap.size w w' := by
  have hc := pack_cases s.size B E h
  clear h
  rcases hc with h1 | ⟨h1, h2⟩ | ⟨h1, h2, h3⟩ | ⟨h1, h2, h3, h4⟩ | ⟨h1, h2, h3, h4, h5⟩
  all_goals
    go_enter Tryd.func34, Tryd.ntmps34
    go_wp2
    go_quiet (fail)
    go_wp2
    go_ret2
    exact ⟨rfl, below_drewN (Below.refl _ _) _⟩

set_option maxHeartbeats 800000 in
theorem pack_good (s : ByteArray) (block every : Nat) (a : Addr) (w : World) (ha : w.cell? ⟨0, 0, none⟩ = some (.iface 170 (.pointer (some a)))) (hs : s.size ≤ 20000) (hb1 : 1 ≤ block) (hb2 : block ≤ 1024) (he1 : 1 ≤ every) (he2 : every ≤ 100) :
    Calls Tryd.prog 34 #[.string s, .int .i64 block, .int .i64 every] w fun e w' => Below w.heap.size w w' ∧
      ((Sk.fileOf s.data.toList block every).length ≤ 65536 → e = .returned (.tuple #[.string ⟨(Sk.fileOf s.data.toList block every).toArray⟩, .nilIface])) ∧
      (¬ (Sk.fileOf s.data.toList block every).length ≤ 65536 → e = .returned (.tuple #[.string ⟨#[]⟩, errVal a])) := by
  have hlt : 0 < w.heap.size := by
    rcases Nat.lt_or_ge 0 w.heap.size with h | h
    · exact h
    · simp [World.cell?, Array.getElem?_eq_none h] at ha
  obtain ⟨F, hF⟩ : ∃ F, F = Sk.fileOf s.data.toList block every := ⟨_, rfl⟩
  rw [← hF]
  have HF : Hid (Sk.fileOf s.data.toList block every = F) := hF.symm
  clear hF
  have hsz : (⟨F.toArray⟩ : ByteArray).size = F.length := by simp [ByteArray.size]
  by_cases h65 : F.length ≤ 65536
  · go_enter Tryd.func34, Tryd.ntmps34
    go_wp2_with (go_at_call 56; refine (packBlocks_any s block every w hs hb1 hb2 he1 he2).mono ?_; rw [HF.out]; rintro e w1 ⟨rfl, hb⟩; have HB : Hid (Below w.heap.size w w1) := hb; have hc := (hb.cell (p := ⟨0, 0, none⟩) hlt).trans ha; clear hb)
    go_ret2
    exact ⟨HB.out, fun _ => rfl, fun h => absurd h65 h⟩
  · go_enter Tryd.func34, Tryd.ntmps34
    go_wp2_with (go_at_call 56; refine (packBlocks_any s block every w hs hb1 hb2 he1 he2).mono ?_; rw [HF.out]; rintro e w1 ⟨rfl, hb⟩; have HB : Hid (Below w.heap.size w w1) := hb; have hc := (hb.cell (p := ⟨0, 0, none⟩) hlt).trans ha; clear hb)
    go_quiet (fail)
    go_wp2
    go_ret2
    exact ⟨below_drewN HB.out _, fun h => absurd h h65, fun _ => rfl⟩

/-- skipper.Pack, whatever it is called with. -/
theorem pack_any (s : ByteArray) (B E : Int) (a : Addr) (w : World) (ha : w.cell? ⟨0, 0, none⟩ = some (.iface 170 (.pointer (some a)))) :
    Calls Tryd.prog 34 #[.string s, .int .i64 B, .int .i64 E] w fun e w' => Below w.heap.size w w' ∧
      e = .returned (match packOut s.data.toList B E with | some f => .tuple #[.string ⟨f.toArray⟩, .nilIface] | none => .tuple #[.string ⟨#[]⟩, errVal a]) := by
  have hlen : s.data.toList.length = s.size := Array.length_toList
  by_cases h : s.size ≤ 20000 ∧ 1 ≤ B ∧ B ≤ 1024 ∧ 1 ≤ E ∧ E ≤ 100
  · obtain ⟨h1, h2, h3, h4, h5⟩ := h
    have g := pack_good s B.toNat E.toNat a w ha h1 (by omega) (by omega) (by omega) (by omega)
    rw [show ((B.toNat : Nat) : Int) = B by omega, show ((E.toNat : Nat) : Int) = E by omega] at g
    refine g.mono fun e w' ⟨hb, g1, g2⟩ => ⟨hb, ?_⟩
    unfold packOut
    rw [if_pos (by rw [hlen]; exact ⟨h1, h2, h3, h4, h5⟩)]
    by_cases hf : (Sk.fileOf s.data.toList B.toNat E.toNat).length ≤ 65536
    · rw [if_pos hf]; exact g1 hf
    · rw [if_neg hf]; exact g2 hf
  · refine (pack_bad s B E a w ha h).mono fun e w' ⟨he, hb⟩ => ⟨hb, ?_⟩
    unfold packOut
    rw [if_neg (by rw [hlen]; exact h)]
    exact he
end Go.Proofs.YtafkpmjifgohcaaDoor
