/- (*File).unpack, walked over unpackEach: the data, or the first bad block.
(*File).unpack, walked: the data, or the first bad block.
Which blocks cannot be read (pure). -/
import Derived.Test.YtafkpmjifgohcaaDoorBackPart3
import Derived.Shelf.Abstract
namespace Go.Proofs.YtafkpmjifgohcaaDoor
open Go.RowKit

/-- A variable of its own that holds a slice of bytes. -/
def Box (w : World) (q : Nat) (x : Value) : Prop := w.heap[q]? = some (.cells #[x] 53 (0, 0))
theorem Box.cell {w : World} {q : Nat} {x : Value} (h : Box w q x) : w.cell? ⟨q, 0, none⟩ = some x := by
  simp [World.cell?, show w.heap[q]? = _ from h]
theorem Box.free {w : World} {q : Nat} {x : Value} (h : Box w q x) : w.frozen? ⟨q, 0, none⟩ = false := by
  simp [World.frozen?, show w.heap[q]? = _ from h]
theorem Box.lt {w : World} {q : Nat} {x : Value} (h : Box w q x) : q < w.heap.size := by
  rcases Nat.lt_or_ge q w.heap.size with h' | h'
  · exact h'
  · have := h; simp [Box, Array.getElem?_eq_none h'] at this
theorem Box.set {w : World} {q : Nat} {x : Value} (h : Box w q x) (y : Value) : Box (w.setCell ⟨q, 0, none⟩ y) q y := by
  show (w.heap.modify q _)[q]? = _
  rw [Array.getElem?_modify, if_pos rfl, show w.heap[q]? = _ from h]
  rfl

/-- What unpack answers. -/
def Unp (w : World) (A : Nat → Addr) (R : Sk.Got) (e : Ending) (w' : World) : Prop :=
  (∀ D, R = .good D → ∃ v', e = .returned (.tuple #[v', .nilIface]) ∧ Bts w' v' D ∧ Gr w (.slice none 0 0) w' v') ∧
  (∀ why k, R = .bad why k → ∃ v, e = .returned (.tuple #[.slice none 0 0, v]) ∧ BadErr w' w.heap.size v k (A (why - 1)) ∧ Below w.heap.size w w')


/-- What the loop of unpackEach keeps: the variable holds what was unpacked so far. -/
structure UJ (w : World) (q : Nat) (wr : World) (x : Value) : Prop where
  box : Box wr q x
  bel : Below q w wr
  own : ∀ k, x.ownBlock = some k → q < k

theorem UJ.grow {w : World} {q : Nat} {wr w1 : World} {x x' : Value} (h : UJ w q wr x) (hg : Gr wr x w1 x') : Box w1 q x ∧ Below q w w1 ∧ ∀ k, x'.ownBlock = some k → q < k := by
  refine ⟨?_, h.bel.trans (hg.below (Nat.le_of_lt h.box.lt) (fun k hk => Nat.le_of_lt (h.own k hk))), fun k hk => ?_⟩
  · show w1.heap[q]? = _
    rw [hg.block q h.box.lt (fun e => Nat.lt_irrefl _ (h.own q e.symm))]
    exact h.box
  · rcases hg.own with e | ⟨g, e, hge⟩
    · exact h.own k (e ▸ hk)
    · rw [e] at hk
      cases hk
      exact Nat.lt_of_lt_of_le h.box.lt hge

/-- The function that keeps what it is handed. -/
theorem keep_any (n : Int) (x y : Value) (q : Nat) (D : List UInt8) (w : World) (hB : Box w q x) (hb : Bts w y D) :
    Calls Tryd.prog 64 #[.int .i64 n, y, .pointer (some ⟨q, 0, none⟩)] w fun e w' => e = .returned (.bool true) ∧ w' = w.setCell ⟨q, 0, none⟩ y := by
  obtain ⟨yo, yc, rfl⟩ := hb.form
  have hc := hB.cell
  have hf := hB.free
  clear hB hb
  go_enter Tryd.func64, Tryd.ntmps64
  go_wp2
  go_ret
  exact ⟨rfl, rfl⟩

set_option maxRecDepth 100000 in
set_option maxHeartbeats 4000000 in
theorem unpackF_both (B g : Nat) (s : ByteArray) (v : Value) (bs : List Sk.Blk) (d first last : Nat) (A : Nat → Addr) (w : World) (hP : PFile w B g s v bs d) (hG : Sk.Good s.data.toList bs d) (hs : s.size ≤ 65536) (hl : bs.length ≤ 20000) (hfl : first ≤ last) (hlb : last < bs.length) (hfr : (Sk.bk bs first).fresh = true)
    (h5 : w.cell? ⟨5, 0, none⟩ = some (.iface 170 (.pointer (some (A 5)))))
    (hS : (∃ why k, Sk.dataN s.data.toList bs first (last + 1 - first) = .bad why k) → SentB w A w.heap.size) :
    Calls Tryd.prog 40 #[.pointer (some ⟨g, 0, none⟩), .int .i64 first, .int .i64 last] w (Unp w A (Sk.dataN s.data.toList bs first (last + 1 - first))) := by
  have hmf : ∀ (fn : Fn) (first cap : Array Value) (w : World), (Instr.makeFunc fn first cap).run Tryd.prog w = .ok (.func fn first cap) w := fun _ _ _ _ => rfl
  have HC : Hid (Calls Tryd.prog 54 #[.pointer (some ⟨g, 0, none⟩), .int .i64 first, .int .i64 last, .func (.func 64) #[] #[.pointer (some ⟨w.heap.size, 0, none⟩)]] (w.alloc (.cells #[.slice none 0 0] 53)) fun e w' =>
      (∀ D, Sk.dataN s.data.toList bs first (last + 1 - first) = .good D → e = .returned .nilIface ∧ ∃ x, UJ w w.heap.size w' x ∧ Bts w' x D) ∧
      (∀ why k, Sk.dataN s.data.toList bs first (last + 1 - first) = .bad why k → ∃ vb, e = .returned vb ∧ BadErr w' w.heap.size vb k (A (why - 1)) ∧ Below w.heap.size w w')) := by
    refine unpackEach_any B g s v bs d first last A w.heap.size 64 #[.pointer (some ⟨w.heap.size, 0, none⟩)] (fun _ wr x => UJ w w.heap.size wr x) _ _ hG hs hl hfl hlb hfr (enters_of Tryd.func64 (by kernel_rfl) rfl) ?_ ?_ ?_ ?_ ?_ ?_
    · exact ⟨heap_alloc_new w _, (Below.refl _ _).alloc (Nat.le_refl _) _, fun k hk => by cases hk⟩
    · intro m wr x h
      exact ⟨hP.below h.bel, (h.bel.cell (p := ⟨5, 0, none⟩) (cell_lt h5)).trans h5⟩
    · intro m wr x h hbad
      exact ⟨(hS hbad).below h.bel, Nat.le_of_lt h.box.lt, fun k hk => Nat.le_of_lt (h.own k hk)⟩
    · intro m wr x w1 x' D hm h hg hb hd
      obtain ⟨h1, h2, h3⟩ := h.grow hg
      refine (keep_any _ x x' _ D w1 h1 hb).mono ?_
      rintro e w2 ⟨rfl, rfl⟩
      exact .inl ⟨rfl, hb.kept (by simp) (fun k hk => heap_setCell_ne _ _ _ _ (fun e => Nat.lt_irrefl _ (e ▸ h3 k hk))), h1.set x', h2.setCell (Nat.le_refl _) _, h3⟩
    · intro wr x D h hb hd
      refine ⟨fun D' hD' => ⟨rfl, x, h, ?_⟩, fun why k hk => by rw [hd] at hk; cases hk⟩
      rw [hd] at hD'
      cases hD'
      exact hb
    · intro m wr x w1 y w2 vb why D hm h hd hu hg hb2 hbad
      have ht := Sk.dataN_told hd hu hm
      refine ⟨(fun D' hD' => by rw [ht] at hD'; cases hD'), fun why' k hk => ?_⟩
      rw [ht] at hk
      cases hk
      obtain ⟨_, h2, _⟩ := h.grow hg
      exact ⟨vb, rfl, hbad.mono h2.size, h2.trans (hb2.mono h2.size)⟩
  obtain ⟨R, hR⟩ : ∃ R, R = Sk.dataN s.data.toList bs first (last + 1 - first) := ⟨_, rfl⟩
  rw [← hR] at HC ⊢
  clear hP hG hs hl hfl hlb hfr h5 hS hR
  cases R with
  | good D =>
    go_enter Tryd.func40, Tryd.ntmps40
    go_wp2_with fail
    refine HC.out.mono ?_
    rintro e w1 ⟨r, _⟩
    obtain ⟨rfl, x, hu, hb⟩ := r D rfl
    obtain ⟨xo, xc, rfl⟩ := hb.form
    have hc := hu.box.cell
    have HB : Hid (Bts w1 (.slice xo D.length xc) D) := hb
    have HG2 : Hid (Gr w (.slice none 0 0) w1 (.slice xo D.length xc)) := ⟨hu.bel.os, hu.bel.tape, hu.bel.output, hu.bel.size, fun k hk _ => hu.bel.block k hk, by
      cases ho : (Value.slice xo D.length xc).ownBlock with
      | none => exact .inl rfl
      | some k => exact .inr ⟨k, rfl, Nat.le_of_lt (hu.own k ho)⟩⟩
    clear r hu hb HC
    go_wp2
    go_ret2
    exact ⟨(fun D' hD' => by cases hD'; exact ⟨_, rfl, HB.out, HG2.out⟩), fun why k hk => by cases hk⟩
  | bad why k =>
    go_enter Tryd.func40, Tryd.ntmps40
    go_wp2_with fail
    refine HC.out.mono ?_
    rintro e w1 ⟨_, r⟩
    obtain ⟨vb, rfl, hbad, hb⟩ := r why k rfl
    have hbad' := hbad
    obtain ⟨q, p, f, rfl, _⟩ := hbad'
    have HBAD : Hid (BadErr w1 w.heap.size (.iface 151 (.pointer (some ⟨q, 0, none⟩))) k (A (why - 1))) := hbad
    have HB : Hid (Below w.heap.size w w1) := hb
    clear r hbad hb HC
    go_wp2
    go_ret2
    exact ⟨(fun D' hD' => by cases hD'), fun why' k' hk => by cases hk; exact ⟨_, rfl, HBAD.out, HB.out⟩⟩

theorem unpackF_good (B g : Nat) (s : ByteArray) (v : Value) (bs : List Sk.Blk) (d first last : Nat) (D : List UInt8) (a5 : Addr) (w : World) (hP : PFile w B g s v bs d) (hG : Sk.Good s.data.toList bs d) (hs : s.size ≤ 65536) (hl : bs.length ≤ 20000) (hfl : first ≤ last) (hlb : last < bs.length) (hfr : (Sk.bk bs first).fresh = true)
    (h5 : w.cell? ⟨5, 0, none⟩ = some (.iface 170 (.pointer (some a5)))) (hD : Sk.dataN s.data.toList bs first (last + 1 - first) = .good D) :
    Calls Tryd.prog 40 #[.pointer (some ⟨g, 0, none⟩), .int .i64 first, .int .i64 last] w fun e w' => ∃ v', e = .returned (.tuple #[v', .nilIface]) ∧ Bts w' v' D ∧ Gr w (.slice none 0 0) w' v' :=
  (unpackF_both B g s v bs d first last (fun _ => a5) w hP hG hs hl hfl hlb hfr h5 (fun ⟨why, k, e⟩ => by rw [hD] at e; cases e)).mono fun e w' h => h.1 D hD
end Go.Proofs.YtafkpmjifgohcaaDoor

namespace Go.Proofs.YtafkpmjifgohcaaDoor
open Go.RowKit

theorem unpackF_any (B g : Nat) (s : ByteArray) (v : Value) (bs : List Sk.Blk) (d first last : Nat) (A : Nat → Addr) (w : World) (hP : PFile w B g s v bs d) (hG : Sk.Good s.data.toList bs d) (hs : s.size ≤ 65536) (hl : bs.length ≤ 20000) (hfl : first ≤ last) (hlb : last < bs.length) (hfr : (Sk.bk bs first).fresh = true) (hS : SentB w A w.heap.size) :
    Calls Tryd.prog 40 #[.pointer (some ⟨g, 0, none⟩), .int .i64 first, .int .i64 last] w (Unp w A (Sk.dataN s.data.toList bs first (last + 1 - first))) :=
  unpackF_both B g s v bs d first last A w hP hG hs hl hfl hlb hfr (hS.s.cell 5 (by decide)) (fun _ => hS)
end Go.Proofs.YtafkpmjifgohcaaDoor

namespace Go.Proofs.YtafkpmjifgohcaaDoor

def Sk.isBad (s : List UInt8) (bs : List Sk.Blk) (k : Nat) : Bool := match Sk.upto s bs k with | .bad _ _ => true | .good _ => false

/-- The bad ones among the first n. -/
def Sk.badL (s : List UInt8) (bs : List Sk.Blk) : Nat → List Nat
  | 0 => []
  | n + 1 => Sk.badL s bs n ++ if Sk.isBad s bs n then [n] else []

section
variable {s : List UInt8} {bs : List Sk.Blk} {d : Nat}
theorem Sk.badL_bad {n : Nat} (h : Sk.isBad s bs n = true) : Sk.badL s bs (n + 1) = Sk.badL s bs n ++ [n] := by rw [Sk.badL, if_pos h]
theorem Sk.badL_good {n : Nat} (h : Sk.isBad s bs n = false) : Sk.badL s bs (n + 1) = Sk.badL s bs n := by rw [Sk.badL, if_neg (by rw [h]; decide), List.append_nil]
theorem Sk.badL_goods {a : Nat} : ∀ m, (∀ i, i < m → Sk.isBad s bs (a + i) = false) → Sk.badL s bs (a + m) = Sk.badL s bs a
  | 0, _ => rfl
  | m + 1, h => by rw [← Nat.add_assoc, Sk.badL_good (h m (by omega)), Sk.badL_goods m (fun i hi => h i (by omega))]
theorem Sk.badL_length (s : List UInt8) (bs : List Sk.Blk) : ∀ n, (Sk.badL s bs n).length ≤ n
  | 0 => Nat.le_refl _
  | n + 1 => by
    rw [Sk.badL, List.length_append]
    have := Sk.badL_length s bs n
    split <;> simp <;> omega

/-- Where the data is good, each block is. -/
theorem Sk.dataN_isGood {first : Nat} : ∀ m D, Sk.dataN s bs first m = .good D → ∀ i, i < m → Sk.isBad s bs (first + i) = false
  | 0, _, _, i, hi => absurd hi (Nat.not_lt_zero _)
  | m + 1, D, h, i, hi => by
    obtain ⟨D', h'⟩ := Sk.dataN_upto h m (by omega)
    rw [Sk.dataN_step h'] at h
    by_cases e : i < m
    · exact Sk.dataN_isGood m D' h' i e
    · obtain rfl : i = m := by omega
      unfold Sk.isBad
      cases hu : Sk.upto s bs (first + i) with
      | good o => rfl
      | bad w j => rw [hu] at h; cases h

/-- A block that is bad spoils those behind it, up to the next fresh one. -/
theorem Sk.bad_stays {j : Nat} (h : Sk.isBad s bs j = true) : ∀ m, (∀ i, j < i → i ≤ j + m → (Sk.bk bs i).fresh = false) → Sk.isBad s bs (j + m) = true
  | 0, _ => h
  | m + 1, hf => by
    have ih := Sk.bad_stays h m (fun i h1 h2 => hf i h1 (by omega))
    unfold Sk.isBad at ih ⊢
    cases hu : Sk.upto s bs (j + m) with
    | good o => rw [hu] at ih; cases ih
    | bad w k => rw [← Nat.add_assoc, Sk.upto_stay s bs (j + m) (hf (j + m + 1) (by omega) (by omega)) w k hu]

/-- From one fresh block to the next, by the data between them. -/
theorem Sk.group_good {first m : Nat} {D : List UInt8} (h : Sk.dataN s bs first (m - first) = .good D) (hm : first ≤ m) : Sk.badL s bs m = Sk.badL s bs first := by
  have := Sk.badL_goods (a := first) (m - first) (Sk.dataN_isGood _ D h)
  rwa [show first + (m - first) = m by omega] at this
theorem Sk.group_bad {first m why j : Nat} (hf : (Sk.bk bs first).fresh = true) (h : Sk.dataN s bs first (m - first) = .bad why j) (hn : ∀ i, first < i → i < m → (Sk.bk bs i).fresh = false) :
    first ≤ j ∧ j < m ∧ Sk.badL s bs j = Sk.badL s bs first ∧ ∀ k, j ≤ k → k < m → Sk.isBad s bs k = true := by
  obtain ⟨h1, h2, h3, D, h4⟩ := Sk.dataN_bad hf _ why j h
  refine ⟨h1, by omega, Sk.group_good h4 h1, fun k hk hkm => ?_⟩
  have hb : Sk.isBad s bs j = true := by unfold Sk.isBad; rw [h3]
  have := Sk.bad_stays hb (k - j) (fun i a b => hn i (by omega) (by omega))
  rwa [show j + (k - j) = k by omega] at this
end
end Go.Proofs.YtafkpmjifgohcaaDoor
