/- (*File).unpack, walked over unpackEach: the data, or the first bad block.
(*File).ReadAt, walked where all is good.
(*File).unpack, walked: the data, or the first bad block.
Which blocks cannot be read (pure).
(*File).ReadAt, walked where a block is bad. -/
import Derived.Test.YtafkpmjifgohcaaDoorLocalPart9
import Derived.Shelf.Abstract
import Derived.Test.YtafkpmjifgohcaaDoorLocalPart1
namespace Go.Proofs.YtafkpmjifgohcaaDoor
open Go.RowKit

/-- A variable of its own that holds a slice of bytes. -/
def Box (w : World) (q : Nat) (x : Value) : Prop := w.heap[q]? = some (.cells #[x] 53 (0, 0))
theorem Box.cell {w : World} {q : Nat} {x : Value} (h : Box w q x) : w.cell? ⟨q, 0, none⟩ = some x := by
  simp [World.cell?, show w.heap[q]? = _ from h]
theorem Box.free {w : World} {q : Nat} {x : Value} (h : Box w q x) : w.frozen? ⟨q, 0, none⟩ = false := by
  simp [World.frozen?, show w.heap[q]? = _ from h]
theorem Box.lt {w : World} {q : Nat} {x : Value} (h : Box w q x) : q < w.heap.size := by
  rcases Nat.lt_or_ge q w.heap.size with h' | h'
  · exact h'
  · have := h; simp [Box, Array.getElem?_eq_none h'] at this
theorem Box.set {w : World} {q : Nat} {x : Value} (h : Box w q x) (y : Value) : Box (w.setCell ⟨q, 0, none⟩ y) q y := by
  show (w.heap.modify q _)[q]? = _
  rw [Array.getElem?_modify, if_pos rfl, show w.heap[q]? = _ from h]
  rfl

/-- What unpack answers. -/
def Unp (w : World) (A : Nat → Addr) (R : Sk.Got) (e : Ending) (w' : World) : Prop :=
  (∀ D, R = .good D → ∃ v', e = .returned (.tuple #[v', .nilIface]) ∧ Bts w' v' D ∧ Gr w (.slice none 0 0) w' v') ∧
  (∀ why k, R = .bad why k → ∃ v, e = .returned (.tuple #[.slice none 0 0, v]) ∧ BadErr w' w.heap.size v k (A (why - 1)) ∧ Below w.heap.size w w')


/-- What the loop of unpackEach keeps: the variable holds what was unpacked so far. -/
structure UJ (w : World) (q : Nat) (wr : World) (x : Value) : Prop where
  box : Box wr q x
  bel : Below q w wr
  own : ∀ k, x.ownBlock = some k → q < k

theorem UJ.grow {w : World} {q : Nat} {wr w1 : World} {x x' : Value} (h : UJ w q wr x) (hg : Gr wr x w1 x') : Box w1 q x ∧ Below q w w1 ∧ ∀ k, x'.ownBlock = some k → q < k := by
  refine ⟨?_, h.bel.trans (hg.below (Nat.le_of_lt h.box.lt) (fun k hk => Nat.le_of_lt (h.own k hk))), fun k hk => ?_⟩
  · show w1.heap[q]? = _
    rw [hg.block q h.box.lt (fun e => Nat.lt_irrefl _ (h.own q e.symm))]
    exact h.box
  · rcases hg.own with e | ⟨g, e, hge⟩
    · exact h.own k (e ▸ hk)
    · rw [e] at hk
      cases hk
      exact Nat.lt_of_lt_of_le h.box.lt hge

/-- The function that keeps what it is handed. -/
theorem keep_any (n : Int) (x y : Value) (q : Nat) (D : List UInt8) (w : World) (hB : Box w q x) (hb : Bts w y D) :
    Calls Tryd.prog 64 #[.int .i64 n, y, .pointer (some ⟨q, 0, none⟩)] w fun e w' => e = .returned (.bool true) ∧ w' = w.setCell ⟨q, 0, none⟩ y := by
  obtain ⟨yo, yc, rfl⟩ := hb.form
  have hc := hB.cell
  have hf := hB.free
  clear hB hb
  go_enter Tryd.func64, Tryd.ntmps64
  go_wp2
  go_ret
  exact ⟨rfl, rfl⟩

set_option maxRecDepth 100000 in
set_option maxHeartbeats 4000000 in
theorem unpackF_both (B g : Nat) (s : ByteArray) (v : Value) (bs : List Sk.Blk) (d first last : Nat) (A : Nat → Addr) (w : World) (hP : PFile w B g s v bs d) (hG : Sk.Good s.data.toList bs d) (hs : s.size ≤ 65536) (hl : bs.length ≤ 20000) (hfl : first ≤ last) (hlb : last < bs.length) (hfr : (Sk.bk bs first).fresh = true)
    (h5 : w.cell? ⟨5, 0, none⟩ = some (.iface 170 (.pointer (some (A 5)))))
    (hS : (∃ why k, Sk.dataN s.data.toList bs first (last + 1 - first) = .bad why k) → SentB w A w.heap.size) :
    Calls Tryd.prog 40 #[.pointer (some ⟨g, 0, none⟩), .int .i64 first, .int .i64 last] w (Unp w A (Sk.dataN s.data.toList bs first (last + 1 - first))) := by
  have hmf : ∀ (fn : Fn) (first cap : Array Value) (w : World), (Instr.makeFunc fn first cap).run Tryd.prog w = .ok (.func fn first cap) w := fun _ _ _ _ => rfl
  have HC : Hid (Calls Tryd.prog 54 #[.pointer (some ⟨g, 0, none⟩), .int .i64 first, .int .i64 last, .func (.func 64) #[] #[.pointer (some ⟨w.heap.size, 0, none⟩)]] (w.alloc (.cells #[.slice none 0 0] 53)) fun e w' =>
      (∀ D, Sk.dataN s.data.toList bs first (last + 1 - first) = .good D → e = .returned .nilIface ∧ ∃ x, UJ w w.heap.size w' x ∧ Bts w' x D) ∧
      (∀ why k, Sk.dataN s.data.toList bs first (last + 1 - first) = .bad why k → ∃ vb, e = .returned vb ∧ BadErr w' w.heap.size vb k (A (why - 1)) ∧ Below w.heap.size w w')) := by
    refine unpackEach_any B g s v bs d first last A w.heap.size 64 #[.pointer (some ⟨w.heap.size, 0, none⟩)] (fun _ wr x => UJ w w.heap.size wr x) _ _ hG hs hl hfl hlb hfr (enters_of Tryd.func64 (by kernel_rfl) rfl) ?_ ?_ ?_ ?_ ?_ ?_
    · exact ⟨heap_alloc_new w _, (Below.refl _ _).alloc (Nat.le_refl _) _, fun k hk => by cases hk⟩
    · intro m wr x h
      exact ⟨hP.below h.bel, (h.bel.cell (p := ⟨5, 0, none⟩) (cell_lt h5)).trans h5⟩
    · intro m wr x h hbad
      exact ⟨(hS hbad).w.below h.bel, Nat.le_of_lt h.box.lt, fun k hk => Nat.le_of_lt (h.own k hk)⟩
    · intro m wr x w1 x' D hm h hg hb hd
      obtain ⟨h1, h2, h3⟩ := h.grow hg
      refine (keep_any _ x x' _ D w1 h1 hb).mono ?_
      rintro e w2 ⟨rfl, rfl⟩
      exact .inl ⟨rfl, hb.kept (by simp) (fun k hk => heap_setCell_ne _ _ _ _ (fun e => Nat.lt_irrefl _ (e ▸ h3 k hk))), h1.set x', h2.setCell (Nat.le_refl _) _, h3⟩
    · intro wr x D h hb hd
      refine ⟨fun D' hD' => ⟨rfl, x, h, ?_⟩, fun why k hk => by rw [hd] at hk; cases hk⟩
      rw [hd] at hD'
      cases hD'
      exact hb
    · intro m wr x w1 y w2 vb why D hm h hd hu hg hb2 hbad
      have ht := Sk.dataN_told hd hu hm
      refine ⟨(fun D' hD' => by rw [ht] at hD'; cases hD'), fun why' k hk => ?_⟩
      rw [ht] at hk
      cases hk
      obtain ⟨_, h2, _⟩ := h.grow hg
      exact ⟨vb, rfl, hbad.mono h2.size, h2.trans (hb2.mono h2.size)⟩
  obtain ⟨R, hR⟩ : ∃ R, R = Sk.dataN s.data.toList bs first (last + 1 - first) := ⟨_, rfl⟩
  rw [← hR] at HC ⊢
  clear hP hG hs hl hfl hlb hfr h5 hS hR
  cases R with
  | good D =>
    go_enter Tryd.func40, Tryd.ntmps40
    go_wp2_with fail
    refine HC.out.mono ?_
    rintro e w1 ⟨r, _⟩
    obtain ⟨rfl, x, hu, hb⟩ := r D rfl
    obtain ⟨xo, xc, rfl⟩ := hb.form
    have hc := hu.box.cell
    have HB : Hid (Bts w1 (.slice xo D.length xc) D) := hb
    have HG2 : Hid (Gr w (.slice none 0 0) w1 (.slice xo D.length xc)) := ⟨hu.bel.os, hu.bel.tape, hu.bel.output, hu.bel.size, fun k hk _ => hu.bel.block k hk, by
      cases ho : (Value.slice xo D.length xc).ownBlock with
      | none => exact .inl rfl
      | some k => exact .inr ⟨k, rfl, Nat.le_of_lt (hu.own k ho)⟩⟩
    clear r hu hb HC
    go_wp2
    go_ret2
    exact ⟨(fun D' hD' => by cases hD'; exact ⟨_, rfl, HB.out, HG2.out⟩), fun why k hk => by cases hk⟩
  | bad why k =>
    go_enter Tryd.func40, Tryd.ntmps40
    go_wp2_with fail
    refine HC.out.mono ?_
    rintro e w1 ⟨_, r⟩
    obtain ⟨vb, rfl, hbad, hb⟩ := r why k rfl
    have hbad' := hbad
    obtain ⟨q, p, f, rfl, _⟩ := hbad'
    have HBAD : Hid (BadErr w1 w.heap.size (.iface 151 (.pointer (some ⟨q, 0, none⟩))) k (A (why - 1))) := hbad
    have HB : Hid (Below w.heap.size w w1) := hb
    clear r hbad hb HC
    go_wp2
    go_ret2
    exact ⟨(fun D' hD' => by cases hD'), fun why' k' hk => by cases hk; exact ⟨_, rfl, HBAD.out, HB.out⟩⟩

theorem unpackF_good (B g : Nat) (s : ByteArray) (v : Value) (bs : List Sk.Blk) (d first last : Nat) (D : List UInt8) (a5 : Addr) (w : World) (hP : PFile w B g s v bs d) (hG : Sk.Good s.data.toList bs d) (hs : s.size ≤ 65536) (hl : bs.length ≤ 20000) (hfl : first ≤ last) (hlb : last < bs.length) (hfr : (Sk.bk bs first).fresh = true)
    (h5 : w.cell? ⟨5, 0, none⟩ = some (.iface 170 (.pointer (some a5)))) (hD : Sk.dataN s.data.toList bs first (last + 1 - first) = .good D) :
    Calls Tryd.prog 40 #[.pointer (some ⟨g, 0, none⟩), .int .i64 first, .int .i64 last] w fun e w' => ∃ v', e = .returned (.tuple #[v', .nilIface]) ∧ Bts w' v' D ∧ Gr w (.slice none 0 0) w' v' :=
  (unpackF_both B g s v bs d first last (fun _ => a5) w hP hG hs hl hfl hlb hfr h5 (fun ⟨why, k, e⟩ => by rw [hD] at e; cases e)).mono fun e w' h => h.1 D hD
end Go.Proofs.YtafkpmjifgohcaaDoor

namespace Go.Proofs.YtafkpmjifgohcaaDoor
open Go.RowKit

section
variable {s : List UInt8} {bs : List Sk.Blk} {d : Nat}
/-- A byte of the data is in one block. -/
theorem Sk.Good.find (h : Sk.Good s bs d) (p : Nat) (hp : p < d) : ∃ k, k < bs.length ∧ (Sk.bk bs k).frm ≤ p ∧ p < (Sk.bk bs k).frm + (Sk.bk bs k).size := by
  have hn : 0 < bs.length := by
    rcases Nat.eq_zero_or_pos bs.length with e | e
    · have := h.emp e; omega
    · exact e
  have key : ∀ m, m < bs.length → p < (Sk.bk bs m).frm + (Sk.bk bs m).size → ∃ k, k < bs.length ∧ (Sk.bk bs k).frm ≤ p ∧ p < (Sk.bk bs k).frm + (Sk.bk bs k).size := by
    intro m
    induction m with
    | zero => intro h0 h1; exact ⟨0, h0, by have := (h.fst hn).2; omega, h1⟩
    | succ m ih =>
      intro h0 h1
      by_cases hc : (Sk.bk bs (m + 1)).frm ≤ p
      · exact ⟨m + 1, h0, hc, h1⟩
      · exact ih (by omega) (by have := h.nxt m h0; omega)
  exact key (bs.length - 1) (by omega) (by have := h.lst (bs.length - 1) (by omega); omega)

theorem Sk.Good.lo (h : Sk.Good s bs d) {p k : Nat} (hk : k < bs.length) (h1 : (Sk.bk bs k).frm ≤ p) (i : Nat) (hi : i ≤ k) : ((Sk.bk bs i).frm : Int) ≤ (p : Int) := by
  have := h.frm_le i (k - i) (by omega)
  rw [show i + (k - i) = k by omega] at this
  omega
theorem Sk.Good.hi (h : Sk.Good s bs d) {p k : Nat} (h2 : p < (Sk.bk bs k).frm + (Sk.bk bs k).size) (i : Nat) (hi : k < i) (hil : i < bs.length) : (p : Int) < ((Sk.bk bs i).frm : Int) := by
  have := h.frm_le (k + 1) (i - (k + 1)) (by omega)
  rw [show k + 1 + (i - (k + 1)) = i by omega] at this
  have := h.nxt k (by omega)
  omega
end

set_option maxHeartbeats 2000000 in
theorem readAt_range (B g : Nat) (s : ByteArray) (v : Value) (bs : List Sk.Blk) (d : Nat) (f c : Int) (a4 : Addr) (w : World) (hP : PFile w B g s v bs d) (hd : d ≤ 20000) (hfc : Fits f) (h : f < 0 ∨ c < 0 ∨ (d : Int) - f < c)
    (h4 : w.cell? ⟨4, 0, none⟩ = some (.iface 170 (.pointer (some a4)))) :
    Calls Tryd.prog 21 #[.pointer (some ⟨g, 0, none⟩), .int .i64 f, .int .i64 c] w fun e w' => e = .returned (.tuple #[.string ⟨#[]⟩, .iface 170 (.pointer (some a4))]) ∧ Below w.heap.size w w' := by
  have hcase : f < 0 ∨ (0 ≤ f ∧ c < 0) ∨ (0 ≤ f ∧ 0 ≤ c ∧ (d : Int) - f < c) := by omega
  have HP : Hid (PFile w B g s v bs d) := hP
  have hf2 : f ≤ 9223372036854775807 := hfc.2
  clear h hP hfc
  rcases hcase with b1 | ⟨b1, b2⟩ | ⟨b1, b2, b3⟩
  all_goals
    go_enter Tryd.func21, Tryd.ntmps21
    go_wp2_with (go_at_call 19; refine (size_any w B g s v bs d HP.out).mono ?_; rintro e w' ⟨rfl, rfl⟩)
    go_quiet (fail)
    go_wp2
    go_ret2
    exact ⟨rfl, below_drewN (Below.refl _ _) _⟩

set_option maxHeartbeats 2000000 in
theorem readAt_zero (B g : Nat) (s : ByteArray) (v : Value) (bs : List Sk.Blk) (d f : Nat) (w : World) (hP : PFile w B g s v bs d) (hd : d ≤ 20000) (hf : f ≤ d) :
    Calls Tryd.prog 21 #[.pointer (some ⟨g, 0, none⟩), .int .i64 f, .int .i64 0] w fun e w' => e = .returned (.tuple #[.string ⟨#[]⟩, .nilIface]) ∧ w' = w := by
  have HP : Hid (PFile w B g s v bs d) := hP
  have b3 : (0 : Int) ≤ (d : Int) - f := by omega
  clear hP
  go_enter Tryd.func21, Tryd.ntmps21
  go_wp2_with (go_at_call 19; refine (size_any w B g s v bs d HP.out).mono ?_; rintro e w' ⟨rfl, rfl⟩)
  go_ret2
  exact ⟨rfl, rfl⟩

set_option maxRecDepth 100000 in
set_option maxHeartbeats 4000000 in
theorem readAt_good (B g : Nat) (s : ByteArray) (v : Value) (bs : List Sk.Blk) (d f c k0 k1 : Nat) (D : List UInt8) (a5 : Addr) (w : World) (hP : PFile w B g s v bs d) (hG : Sk.Good s.data.toList bs d) (hs : s.size ≤ 65536) (hl : bs.length ≤ 20000) (hc : 0 < c) (hfc : f + c ≤ d)
    (q0 : k0 < bs.length ∧ (Sk.bk bs k0).frm ≤ f ∧ f < (Sk.bk bs k0).frm + (Sk.bk bs k0).size) (q1 : k1 < bs.length ∧ (Sk.bk bs k1).frm ≤ f + c - 1 ∧ f + c - 1 < (Sk.bk bs k1).frm + (Sk.bk bs k1).size)
    (h5 : w.cell? ⟨5, 0, none⟩ = some (.iface 170 (.pointer (some a5)))) (hD : Sk.dataN s.data.toList bs (Sk.lastF bs k0) (k1 + 1 - Sk.lastF bs k0) = .good D) :
    Calls Tryd.prog 21 #[.pointer (some ⟨g, 0, none⟩), .int .i64 f, .int .i64 c] w fun e w' => e = .returned (.tuple #[.string ⟨(Sk.sub D (f - (Sk.bk bs (Sk.lastF bs k0)).frm) (f - (Sk.bk bs (Sk.lastF bs k0)).frm + c)).toArray⟩, .nilIface]) ∧ Below w.heap.size w w' := by
  have hd := hG.dat
  obtain ⟨q00, q01, q02⟩ := q0
  obtain ⟨q10, q11, q12⟩ := q1
  have hkk : k0 ≤ k1 := by
    rcases Nat.lt_or_ge k1 k0 with h | h
    · have := hG.hi q12 k0 h q00
      omega
    · exact h
  have hlf := Sk.lastF_le bs k0
  have hfresh := hG.lastF_fresh k0 q00
  obtain ⟨fi, hfi⟩ : ∃ fi, fi = Sk.lastF bs k0 := ⟨_, rfl⟩
  have hfle : (Sk.bk bs fi).frm ≤ f := by have := hG.lo q00 q01 fi (by omega); omega
  have hdl := (hG.data hfresh (k1 + 1 - Sk.lastF bs k0) D (by omega) hD).2.1 (by omega)
  rw [show Sk.lastF bs k0 + (k1 + 1 - Sk.lastF bs k0) - 1 = k1 by omega] at hdl
  rw [← hfi] at hlf hfresh hD hdl ⊢
  have HFI : Hid (Sk.lastF bs k0 = fi) := hfi.symm
  have HP : Hid (PFile w B g s v bs d) := hP
  have HG : Hid (Sk.Good s.data.toList bs d) := hG
  have HD : Hid (Sk.dataN s.data.toList bs fi (k1 + 1 - fi) = .good D) := hD
  have HFR : Hid ((Sk.bk bs fi).fresh = true) := hfresh
  have HQ0 : Hid ((Sk.bk bs k0).frm ≤ f ∧ f < (Sk.bk bs k0).frm + (Sk.bk bs k0).size) := ⟨q01, q02⟩
  have HQ1 : Hid ((Sk.bk bs k1).frm ≤ f + c - 1 ∧ f + c - 1 < (Sk.bk bs k1).frm + (Sk.bk bs k1).size) := ⟨q11, q12⟩
  have hDl2 : f + c ≤ D.length + (Sk.bk bs fi).frm := by omega
  have b1 : (0 : Int) ≤ (f : Int) := by omega
  have b2 : (0 : Int) ≤ (c : Int) := by omega
  have b3 : (c : Int) ≤ (d : Int) - f := by omega
  have b4 : ((c : Int) == 0) = false := by rw [beq_eq_false_iff_ne]; omega
  obtain ⟨vo, vcap, e⟩ := hP.row.form
  subst e
  obtain ⟨a, rfl, ha, hcl⟩ := hP.entry fi (by omega)
  have hgl := hP.lt
  have x0 := hcl 0 (by decide)
  have c0 := hP.cell 0
  simp at c0
  simp [Sk.cells6] at x0
  have l5 := cell_lt h5
  obtain ⟨F0, hF0⟩ : ∃ F0, F0 = (Sk.bk bs fi).frm := ⟨_, rfl⟩
  rw [← hF0] at x0 hfle hDl2 ⊢
  clear q01 q02 q11 q12 hfi hP hG hD hfresh hcl hdl hF0
  go_enter Tryd.func21, Tryd.ntmps21
  go_wp2_with (go_at_call 19; refine (size_any w B g s _ bs d HP.out).mono ?_; rintro e w9 ⟨rfl, hw9⟩; rw [hw9]; clear hw9 w9)
  go_region_with (first | (go_at_call 39; refine (blockOf_any _ B g s _ bs d k0 f (HP.out.below ((Below.refl _ _).drew)) hl q00 (fun i hi => HG.out.lo q00 HQ0.out.1 i hi) (fun i hi h2 => HG.out.hi HQ0.out.2 i hi h2)).mono ?_; rintro e w1 ⟨rfl, hb1⟩; have HB1 : Hid (Below w.heap.size w w1) := (Below.refl _ _).drew.trans hb1; clear hb1) | (go_at_call 38; refine (lastFresh_any _ B g s _ bs d k0 (HP.out.below HB1.out) HG.out q00 hl).mono ?_; rw [HFI.out]; rintro e w8 ⟨rfl, hw8⟩; rw [hw8]; clear hw8 w8))
  all_goals
    go_wp2_with fail
    refine (blockOf_any w1 B g s _ bs d k1 _ (HP.out.below HB1.out) hl q10 (fun i hi => by have := HG.out.lo q10 HQ1.out.1 i hi; omega) (fun i hi h2 => by have := HG.out.hi HQ1.out.2 i hi h2; omega)).mono ?_
    rintro e w2 ⟨rfl, hb2⟩
    have HB2 : Hid (Below w.heap.size w w2) := HB1.out.trans (hb2.mono HB1.out.size)
    clear hb2
    go_wp2_with fail
    refine (unpackF_good B g s _ bs d fi k1 D a5 w2 (HP.out.below HB2.out) HG.out hs hl (by omega) q10 HFR.out ((HB2.out.cell (p := ⟨5, 0, none⟩) l5).trans h5) HD.out).mono ?_
    rintro e w3 ⟨v', rfl, hb3, hg3⟩
    have HB3 : Hid (Below w.heap.size w w3) := HB2.out.trans ((gr_nil_below hg3).mono HB2.out.size)
    have HBD : Hid (Bts w3 v' D) := hb3
    have y0 := (HB3.out.cell (p := ⟨a, fi * 6, none⟩) ha).trans x0
    have z0 := (HB3.out.cell (p := ⟨g, 0, none⟩) hgl).trans c0
    clear hb3 hg3 x0 c0
    have kk : (fi : Int) < (bs.length : Int) := by omega
    have hDp : 0 < D.length := by omega
    rcases HBD.out with ⟨_, e⟩ | ⟨gd, xc, e, hxc, hgd, _, _, hcells⟩
    · rw [e] at hDp; cases hDp
    subst e
    have hxi : (f : Int) - F0 + c ≤ (xc : Int) := by omega
    have hx0 : (0 : Int) ≤ (f : Int) - F0 + c := by omega
    have hx1 : (0 : Int) ≤ (f : Int) - F0 := by omega
    have hx2 : (f : Int) - F0 ≤ (f : Int) - F0 + c := by omega
    have hsl : (Sk.sub D (f - F0) (f - F0 + c)).length = c := by rw [Sk.sub_length _ _ _ (by omega)]; omega
    have hcv : (convert 53 9 (.slice (some ⟨gd, f - F0, none⟩) c (xc - (f - F0)))).run Tryd.prog w3 = .ok (.string ⟨(Sk.sub D (f - F0) (f - F0 + c)).toArray⟩) w3 := by
      have := run_convert_bytes_back (P := Tryd.prog) w3 53 9 5 ⟨gd, f - F0, none⟩ (xc - (f - F0)) (Sk.sub D (f - F0) (f - F0 + c)) Tryd.underlying53 Tryd.underlying5 Tryd.underlying9 (fun j hj => by
        rw [Go.WideShapes.add_plain, hcells (f - F0 + j) (by omega)]
        simp [Sk.sub, cellOf])
      rw [hsl] at this
      exact this
    clear hcells hsl
    go_wp2
    go_ret2
    exact ⟨rfl, HB3.out⟩
end Go.Proofs.YtafkpmjifgohcaaDoor

namespace Go.Proofs.YtafkpmjifgohcaaDoor
open Go.RowKit

theorem unpackF_any (B g : Nat) (s : ByteArray) (v : Value) (bs : List Sk.Blk) (d first last : Nat) (A : Nat → Addr) (w : World) (hP : PFile w B g s v bs d) (hG : Sk.Good s.data.toList bs d) (hs : s.size ≤ 65536) (hl : bs.length ≤ 20000) (hfl : first ≤ last) (hlb : last < bs.length) (hfr : (Sk.bk bs first).fresh = true) (hS : SentB w A w.heap.size) :
    Calls Tryd.prog 40 #[.pointer (some ⟨g, 0, none⟩), .int .i64 first, .int .i64 last] w (Unp w A (Sk.dataN s.data.toList bs first (last + 1 - first))) :=
  unpackF_both B g s v bs d first last A w hP hG hs hl hfl hlb hfr (hS.s.cell 5 (by decide)) (fun _ => hS)
end Go.Proofs.YtafkpmjifgohcaaDoor

namespace Go.Proofs.YtafkpmjifgohcaaDoor

def Sk.isBad (s : List UInt8) (bs : List Sk.Blk) (k : Nat) : Bool := match Sk.upto s bs k with | .bad _ _ => true | .good _ => false

/-- The bad ones among the first n. -/
def Sk.badL (s : List UInt8) (bs : List Sk.Blk) : Nat → List Nat
  | 0 => []
  | n + 1 => Sk.badL s bs n ++ if Sk.isBad s bs n then [n] else []

section
variable {s : List UInt8} {bs : List Sk.Blk} {d : Nat}
theorem Sk.badL_bad {n : Nat} (h : Sk.isBad s bs n = true) : Sk.badL s bs (n + 1) = Sk.badL s bs n ++ [n] := by rw [Sk.badL, if_pos h]
theorem Sk.badL_good {n : Nat} (h : Sk.isBad s bs n = false) : Sk.badL s bs (n + 1) = Sk.badL s bs n := by rw [Sk.badL, if_neg (by rw [h]; decide), List.append_nil]
theorem Sk.badL_goods {a : Nat} : ∀ m, (∀ i, i < m → Sk.isBad s bs (a + i) = false) → Sk.badL s bs (a + m) = Sk.badL s bs a
  | 0, _ => rfl
  | m + 1, h => by rw [← Nat.add_assoc, Sk.badL_good (h m (by omega)), Sk.badL_goods m (fun i hi => h i (by omega))]
theorem Sk.badL_length (s : List UInt8) (bs : List Sk.Blk) : ∀ n, (Sk.badL s bs n).length ≤ n
  | 0 => Nat.le_refl _
  | n + 1 => by
    rw [Sk.badL, List.length_append]
    have := Sk.badL_length s bs n
    split <;> simp <;> omega

/-- Where the data is good, each block is. -/
theorem Sk.dataN_isGood {first : Nat} : ∀ m D, Sk.dataN s bs first m = .good D → ∀ i, i < m → Sk.isBad s bs (first + i) = false
  | 0, _, _, i, hi => absurd hi (Nat.not_lt_zero _)
  | m + 1, D, h, i, hi => by
    obtain ⟨D', h'⟩ := Sk.dataN_upto h m (by omega)
    rw [Sk.dataN_step h'] at h
    by_cases e : i < m
    · exact Sk.dataN_isGood m D' h' i e
    · obtain rfl : i = m := by omega
      unfold Sk.isBad
      cases hu : Sk.upto s bs (first + i) with
      | good o => rfl
      | bad w j => rw [hu] at h; cases h

/-- A block that is bad spoils those behind it, up to the next fresh one. -/
theorem Sk.bad_stays {j : Nat} (h : Sk.isBad s bs j = true) : ∀ m, (∀ i, j < i → i ≤ j + m → (Sk.bk bs i).fresh = false) → Sk.isBad s bs (j + m) = true
  | 0, _ => h
  | m + 1, hf => by
    have ih := Sk.bad_stays h m (fun i h1 h2 => hf i h1 (by omega))
    unfold Sk.isBad at ih ⊢
    cases hu : Sk.upto s bs (j + m) with
    | good o => rw [hu] at ih; cases ih
    | bad w k => rw [← Nat.add_assoc, Sk.upto_stay s bs (j + m) (hf (j + m + 1) (by omega) (by omega)) w k hu]

/-- From one fresh block to the next, by the data between them. -/
theorem Sk.group_good {first m : Nat} {D : List UInt8} (h : Sk.dataN s bs first (m - first) = .good D) (hm : first ≤ m) : Sk.badL s bs m = Sk.badL s bs first := by
  have := Sk.badL_goods (a := first) (m - first) (Sk.dataN_isGood _ D h)
  rwa [show first + (m - first) = m by omega] at this
theorem Sk.group_bad {first m why j : Nat} (hf : (Sk.bk bs first).fresh = true) (h : Sk.dataN s bs first (m - first) = .bad why j) (hn : ∀ i, first < i → i < m → (Sk.bk bs i).fresh = false) :
    first ≤ j ∧ j < m ∧ Sk.badL s bs j = Sk.badL s bs first ∧ ∀ k, j ≤ k → k < m → Sk.isBad s bs k = true := by
  obtain ⟨h1, h2, h3, D, h4⟩ := Sk.dataN_bad hf _ why j h
  refine ⟨h1, by omega, Sk.group_good h4 h1, fun k hk hkm => ?_⟩
  have hb : Sk.isBad s bs j = true := by unfold Sk.isBad; rw [h3]
  have := Sk.bad_stays hb (k - j) (fun i a b => hn i (by omega) (by omega))
  rwa [show j + (k - j) = k by omega] at this
end
end Go.Proofs.YtafkpmjifgohcaaDoor

namespace Go.Proofs.YtafkpmjifgohcaaDoor
open Go.RowKit

set_option maxRecDepth 100000 in
set_option maxHeartbeats 4000000 in
theorem readAt_bad (B g : Nat) (s : ByteArray) (v : Value) (bs : List Sk.Blk) (d f c k0 k1 : Nat) (why j : Nat) (A : Nat → Addr) (w : World) (hP : PFile w B g s v bs d) (hG : Sk.Good s.data.toList bs d) (hs : s.size ≤ 65536) (hl : bs.length ≤ 20000) (hc : 0 < c) (hfc : f + c ≤ d)
    (q0 : k0 < bs.length ∧ (Sk.bk bs k0).frm ≤ f ∧ f < (Sk.bk bs k0).frm + (Sk.bk bs k0).size) (q1 : k1 < bs.length ∧ (Sk.bk bs k1).frm ≤ f + c - 1 ∧ f + c - 1 < (Sk.bk bs k1).frm + (Sk.bk bs k1).size)
    (hS : SentB w A w.heap.size) (hD : Sk.dataN s.data.toList bs (Sk.lastF bs k0) (k1 + 1 - Sk.lastF bs k0) = .bad why j) :
    Calls Tryd.prog 21 #[.pointer (some ⟨g, 0, none⟩), .int .i64 f, .int .i64 c] w fun e w' => ∃ v, e = .returned (.tuple #[.string ⟨#[]⟩, v]) ∧ BadErr w' w.heap.size v j (A (why - 1)) ∧ Below w.heap.size w w' := by
  have hd := hG.dat
  obtain ⟨q00, q01, q02⟩ := q0
  obtain ⟨q10, q11, q12⟩ := q1
  have hkk : k0 ≤ k1 := by
    rcases Nat.lt_or_ge k1 k0 with h | h
    · have := hG.hi q12 k0 h q00
      omega
    · exact h
  have hlf := Sk.lastF_le bs k0
  have hfresh := hG.lastF_fresh k0 q00
  obtain ⟨fi, hfi⟩ : ∃ fi, fi = Sk.lastF bs k0 := ⟨_, rfl⟩
  have hfle : (Sk.bk bs fi).frm ≤ f := by have := hG.lo q00 q01 fi (by omega); omega
  rw [← hfi] at hlf hfresh hD
  have HFI : Hid (Sk.lastF bs k0 = fi) := hfi.symm
  have HP : Hid (PFile w B g s v bs d) := hP
  have HG : Hid (Sk.Good s.data.toList bs d) := hG
  have HD : Hid (Sk.dataN s.data.toList bs fi (k1 + 1 - fi) = .bad why j) := hD
  have HS : Hid (SentB w A w.heap.size) := hS
  have HFR : Hid ((Sk.bk bs fi).fresh = true) := hfresh
  have HQ0 : Hid ((Sk.bk bs k0).frm ≤ f ∧ f < (Sk.bk bs k0).frm + (Sk.bk bs k0).size) := ⟨q01, q02⟩
  have HQ1 : Hid ((Sk.bk bs k1).frm ≤ f + c - 1 ∧ f + c - 1 < (Sk.bk bs k1).frm + (Sk.bk bs k1).size) := ⟨q11, q12⟩
  have b1 : (0 : Int) ≤ (f : Int) := by omega
  have b2 : (0 : Int) ≤ (c : Int) := by omega
  have b3 : (c : Int) ≤ (d : Int) - f := by omega
  have b4 : ((c : Int) == 0) = false := by rw [beq_eq_false_iff_ne]; omega
  obtain ⟨vo, vcap, e⟩ := hP.row.form
  subst e
  clear q01 q02 q11 q12 hfi hP hG hD hfresh hS hfle
  go_enter Tryd.func21, Tryd.ntmps21
  go_wp2_with (go_at_call 19; refine (size_any w B g s _ bs d HP.out).mono ?_; rintro e w9 ⟨rfl, hw9⟩; rw [hw9]; clear hw9 w9)
  go_region_with (first | (go_at_call 39; refine (blockOf_any _ B g s _ bs d k0 f (HP.out.below ((Below.refl _ _).drew)) hl q00 (fun i hi => HG.out.lo q00 HQ0.out.1 i hi) (fun i hi h2 => HG.out.hi HQ0.out.2 i hi h2)).mono ?_; rintro e w1 ⟨rfl, hb1⟩; have HB1 : Hid (Below w.heap.size w w1) := (Below.refl _ _).drew.trans hb1; clear hb1) | (go_at_call 38; refine (lastFresh_any _ B g s _ bs d k0 (HP.out.below HB1.out) HG.out q00 hl).mono ?_; rw [HFI.out]; rintro e w8 ⟨rfl, hw8⟩; rw [hw8]; clear hw8 w8))
  all_goals
    go_wp2_with fail
    refine (blockOf_any w1 B g s _ bs d k1 _ (HP.out.below HB1.out) hl q10 (fun i hi => by have := HG.out.lo q10 HQ1.out.1 i hi; omega) (fun i hi h2 => by have := HG.out.hi HQ1.out.2 i hi h2; omega)).mono ?_
    rintro e w2 ⟨rfl, hb2⟩
    have HB2 : Hid (Below w.heap.size w w2) := HB1.out.trans (hb2.mono HB1.out.size)
    clear hb2
    go_wp2_with fail
    refine (unpackF_any B g s _ bs d fi k1 A w2 (HP.out.below HB2.out) HG.out hs hl (by omega) q10 HFR.out ⟨(HS.out.below HB2.out).s, Nat.le_trans HS.out.l HB2.out.size, fun i hi => Nat.lt_of_lt_of_le (HS.out.a i hi) HB2.out.size⟩).mono ?_
    rintro e w3 ⟨_, r1⟩
    obtain ⟨vb, rfl, hbad, hb3⟩ := r1 why j HD.out
    have HB3 : Hid (Below w.heap.size w w3) := HB2.out.trans (hb3.mono HB2.out.size)
    have HBAD : Hid (BadErr w3 w.heap.size vb j (A (why - 1))) := hbad.mono HB2.out.size
    obtain ⟨q, p, ff, hvb, _⟩ := hbad
    subst hvb
    clear r1 hb3
    go_wp2
    go_ret2
    exact ⟨_, rfl, HBAD.out, HB3.out⟩
end Go.Proofs.YtafkpmjifgohcaaDoor
