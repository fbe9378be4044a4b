/- (*File).Chunks, walked: the function that it gives yields the chunks. -/
import Derived.Test.YtafkpmjifgohcaaDoorChunkeduptoPart19
import Derived.Test.YtafkpmjifgohcaaDoorChunkeduptoPart22
import Derived.Test.YtafkpmjifgohcaaDoorChunkeduptoPart23
import Derived.RangeFuncNested
import Derived.RangeFuncBound
import Derived.RangeFuncCalls
import Derived.RangeFuncLeaves
import Derived.Shelf.Abstract
import Derived.Shelf.RegionOpen
import Derived.OwnWalkIn
import Derived.TacticsInMore
import Derived.LoopNIn
import Derived.LoopIn
namespace Go.Proofs.YtafkpmjifgohcaaDoor
open Go.RowKit Go.Shelf

/-- A variable of its own. -/
def Var (w : World) (q : Nat) (x : Value) (t : TypeId) : Prop := w.heap[q]? = some (.cells #[x] t (0, 0))
theorem Var.cell {w : World} {q : Nat} {x : Value} {t : TypeId} (h : Var w q x t) : w.cell? ⟨q, 0, none⟩ = some x := by
  simp [World.cell?, show w.heap[q]? = _ from h]
theorem Var.free {w : World} {q : Nat} {x : Value} {t : TypeId} (h : Var w q x t) : w.frozen? ⟨q, 0, none⟩ = false := by
  simp [World.frozen?, show w.heap[q]? = _ from h]
theorem Var.set {w : World} {q : Nat} {x : Value} {t : TypeId} (h : Var w q x t) (y : Value) : Var (w.setCell ⟨q, 0, none⟩ y) q y t := by
  show (w.heap.modify q _)[q]? = _
  rw [Array.getElem?_modify, if_pos rfl, show w.heap[q]? = _ from h]
  rfl
theorem Var.lt {w : World} {q : Nat} {x : Value} {t : TypeId} (h : Var w q x t) : q < w.heap.size := by
  rcases Nat.lt_or_ge q w.heap.size with h' | h'
  · exact h'
  · have := h; simp [Var, Array.getElem?_eq_none h'] at this
theorem Var.below {w w' : World} {q : Nat} {x : Value} {t : TypeId} (h : Var w q x t) (hb : Below w.heap.size w w') : Var w' q x t := (hb.block q h.lt).trans h
theorem Var.new (w : World) (x : Value) (t : TypeId) : Var (w.alloc (.cells #[x] t)) w.heap.size x t := heap_alloc_new w _

/-- The function that Chunks gives. -/
theorem chunks_call (g : Nat) (p : Int) (w : World) :
    Calls Tryd.prog 33 #[.pointer (some ⟨g, 0, none⟩), .int .i64 p] w fun e w' => e = .returned (.func (.func 53) #[] #[.pointer (some ⟨w.heap.size + 1, 0, none⟩), .pointer (some ⟨w.heap.size, 0, none⟩)]) ∧
      Below w.heap.size w w' ∧ Var w' w.heap.size (.pointer (some ⟨g, 0, none⟩)) 32 ∧ Var w' (w.heap.size + 1) (.int .i64 p) 3 ∧ w'.heap.size = w.heap.size + 2 := by
  have hmf : ∀ (fn : Fn) (first cap : Array Value) (w : World), (Instr.makeFunc fn first cap).run Tryd.prog w = .ok (.func fn first cap) w := fun _ _ _ _ => rfl
  go_enter Tryd.func33, Tryd.ntmps33
  go_wp2
  go_ret
  refine ⟨rfl, ((Below.refl _ _).alloc (Nat.le_refl _) _).alloc (by simp) _, ?_, ?_, by simp⟩
  · exact (Var.new w (.pointer (some ⟨g, 0, none⟩)) 32).below ((Below.refl _ _).alloc (Nat.le_refl _) _)
  · have := Var.new (w.alloc (.cells #[.pointer (some ⟨g, 0, none⟩)] 32)) (.int .i64 p) 3
    rwa [World.size_alloc] at this

set_option maxRecDepth 100000 in
set_option maxHeartbeats 4000000 in
theorem chunks1_any (B g q1 q2 l k : Nat) (s : ByteArray) (v : Value) (bs : List Sk.Blk) (d p : Nat) (w : World) (hP : PFile w B g s v bs d) (hG : Sk.Good s.data.toList bs d) (hl : bs.length ≤ 20000) (c1 : Var w q1 (.pointer (some ⟨g, 0, none⟩)) 32) (c2 : Var w q2 (.int .i64 p) 3)
    (hk : k < bs.length ∧ (Sk.bk bs k).frm ≤ p ∧ p < (Sk.bk bs k).frm + (Sk.bk bs k).size) (Post : Ending → World → Prop)
    (hcall : ∀ (q4 q6 : Nat) (w2 : World), Below w.heap.size w w2 → Var w2 w.heap.size (.func (.yield l) #[] #[]) 100 → Var w2 q4 (.int .i64 k) 3 → Var w2 q6 (.int .i64 (Sk.bk bs (Sk.lastF bs k)).frm) 3 → w.heap.size ≤ q4 → w.heap.size ≤ q6 →
      Calls Tryd.prog 54 #[.pointer (some ⟨g, 0, none⟩), .int .i64 (Sk.lastF bs k), .int .i64 ((bs.length : Int) - 1), .func (.func 55) #[] #[.pointer (some ⟨q4, 0, none⟩), .pointer (some ⟨w.heap.size, 0, none⟩), .pointer (some ⟨q2, 0, none⟩), .pointer (some ⟨q1, 0, none⟩), .pointer (some ⟨q6, 0, none⟩)]] w2 fun e w3 => (∃ r, e = .returned r) ∧ PFile w3 B g s v bs d ∧ Var w3 q1 (.pointer (some ⟨g, 0, none⟩)) 32 ∧ ∀ v, Post (.returned v) w3) :
    Calls Tryd.prog 53 #[.func (.yield l) #[] #[], .pointer (some ⟨q2, 0, none⟩), .pointer (some ⟨q1, 0, none⟩)] w Post := by
  have hmf : ∀ (fn : Fn) (first cap : Array Value) (w : World), (Instr.makeFunc fn first cap).run Tryd.prog w = .ok (.func fn first cap) w := fun _ _ _ _ => rfl
  obtain ⟨vo, vcap, rfl⟩ := hP.row.form
  have hlf := Sk.lastF_le bs k
  obtain ⟨a, rfl, ha, hcl⟩ := hP.entry (Sk.lastF bs k) (by have := hk.1; omega)
  have hgl := hP.lt
  have x0 := hcl 0 (by decide)
  have c0 := hP.cell 0
  simp at c0
  simp [Sk.cells6] at x0
  clear hcl
  have d1 := c1.cell
  have d2 := c2.cell
  have l1 := c1.lt
  have l2 := c2.lt
  obtain ⟨k0, k1, k2⟩ := hk
  have hd := hG.dat
  have hpd : p < d := by have := hG.le k k0; omega
  have b1 : (0 : Int) ≤ (p : Int) := by omega
  have b2 : (p : Int) < (d : Int) := by omega
  have HP : Hid (PFile w B g s (.slice (some ⟨a, 0, none⟩) bs.length vcap) bs d) := hP
  have HG : Hid (Sk.Good s.data.toList bs d) := hG
  have HC1 : Hid (Var w q1 (.pointer (some ⟨g, 0, none⟩)) 32) := c1
  have HC2 : Hid (Var w q2 (.int .i64 p) 3) := c2
  have HK : Hid ((Sk.bk bs k).frm ≤ p ∧ p < (Sk.bk bs k).frm + (Sk.bk bs k).size) := ⟨k1, k2⟩
  clear hP hG c1 c2 k1 k2
  go_enter Tryd.func53, Tryd.ntmps53
  go_wp2_with fail
  have HB0 : Hid (Below w.heap.size w (w.alloc (.cells #[.func (.yield l) #[] #[]] 100))) := (Below.refl _ _).alloc (Nat.le_refl _) _
  have HZ0 : Hid ((w.alloc (.cells #[.func (.yield l) #[] #[]] 100)).heap.size = w.heap.size + 1) := World.size_alloc _ _
  have HV3 : Hid (Var (w.alloc (.cells #[.func (.yield l) #[] #[]] 100)) w.heap.size (.func (.yield l) #[] #[]) 100) := Var.new w _ _
  have e1 := (HC1.out.below HB0.out).cell
  have e2 := (HC2.out.below HB0.out).cell
  have hsz : ∀ W, PFile W B g s (.slice (some ⟨a, 0, none⟩) bs.length vcap) bs d → Calls Tryd.prog 19 #[.pointer (some ⟨g, 0, none⟩)] W fun e w' => e = .returned (.int .i64 d) ∧ w' = W := fun W h => size_any W B g s _ bs d h
  have HSZ : Hid (∀ W, Below w.heap.size w W → Calls Tryd.prog 19 #[.pointer (some ⟨g, 0, none⟩)] W fun e w' => e = .returned (.int .i64 d) ∧ w' = W) := fun W h => hsz W (HP.out.below h)
  clear hsz
  generalize (w.alloc (.cells #[.func (.yield l) #[] #[]] 100)) = w0 at *
  go_region_held3 (fun w' => w'.cell? ⟨q1, 0, none⟩ = some (.pointer (some ⟨g, 0, none⟩)) ∧ w'.cell? ⟨q2, 0, none⟩ = some (.int .i64 p) ∧ Below w.heap.size w w') ((first | exact ⟨by go_keep, by go_keep, HB0.out.drew⟩ | go_keep)) ((go_at_call 19; refine (HSZ.out _ (by first | assumption | exact HB0.out.drew)).mono ?_; rintro e w9 ⟨rfl, rfl⟩))
  have HBK : Hid (∀ W, Below w.heap.size w W → Calls Tryd.prog 39 #[.pointer (some ⟨g, 0, none⟩), .int .i64 p] W fun e w' => e = .returned (.int .i64 k) ∧ Below W.heap.size W w') := fun W h => blockOf_any W B g s _ bs d k p (HP.out.below h) hl k0 (fun i hi => HG.out.lo k0 HK.out.1 i hi) (fun i hi h2 => HG.out.hi HK.out.2 i hi h2)
  have HBA : Hid (Below w.heap.size w w0.drew) := HB0.out.drew
  have HV3A : Hid (Var w0.drew w.heap.size (.func (.yield l) #[] #[]) 100) := HV3.out
  have HZA : Hid (w0.drew.heap.size = w.heap.size + 1) := HZ0.out
  have f1 : w0.drew.cell? ⟨q1, 0, none⟩ = some (.pointer (some ⟨g, 0, none⟩)) := e1
  have f2 : w0.drew.cell? ⟨q2, 0, none⟩ = some (.int .i64 p) := e2
  clear HB0 HZ0 HV3 HSZ e1 e2
  generalize w0.drew = wa at *
  have HSS : ∀ W, Below w.heap.size w W → W.cell? ⟨q1, 0, none⟩ = some (.pointer (some ⟨g, 0, none⟩)) ∧ W.cell? ⟨q2, 0, none⟩ = some (.int .i64 p) ∧ Below w.heap.size w W := fun W h => ⟨(HC1.out.below h).cell, (HC2.out.below h).cell, h⟩
  go_wp2_with fail
  refine (fun hrest : Hid (∀ (q4 : Nat) (w2 : World), Below w.heap.size w w2 → Var w2 w.heap.size (.func (.yield l) #[] #[]) 100 → Var w2 q4 (.int .i64 k) 3 → w.heap.size ≤ q4 → (?P1 : Nat → World → Prop) q4 w2) => ?main1) ?rest1
  case main1 =>
    go_region_held3 (fun w' => w'.cell? ⟨q1, 0, none⟩ = some (.pointer (some ⟨g, 0, none⟩)) ∧ w'.cell? ⟨q2, 0, none⟩ = some (.int .i64 p) ∧ Below w.heap.size w w') ((refine HSS _ ?_; first | assumption | exact HBA.out.drew | exact HBA.out.drew.alloc HBA.out.drew.size _ | exact b9.alloc b9.size _ | exact b9.setCell (p := ⟨wa.heap.size, 0, none⟩) HBA.out.size _ | exact (b9.alloc b9.size _).setCell (p := ⟨w9.heap.size, 0, none⟩) b9.size _)) ((go_at_call 39; refine (HBK.out _ (by first | assumption | exact HBA.out.drew | exact HBA.out.drew.alloc HBA.out.drew.size _)).mono ?_; rintro e w9 ⟨rfl, hb9⟩; have b9 : Below w.heap.size w w9 := (by first | exact HBA.out.drew.trans (hb9.mono HBA.out.drew.size) | exact (HBA.out.drew.alloc HBA.out.drew.size _).trans (hb9.mono (by simp; have := HBA.out.size; omega))); have y9 : Hid (Var w9 w.heap.size (.func (.yield l) #[] #[]) 100) := (by first | exact Var.below (w := wa.drew) HV3A.out hb9 | exact (Var.below (w := wa.drew) HV3A.out ((Below.refl _ _).alloc (Nat.le_refl _) _)).below hb9); (try (have v9 : Hid (Var w9 wa.heap.size (.int .i64 0) 3) := (Var.new wa.drew (.int .i64 0) 3).below hb9; have c9 : w9.cell? ⟨wa.heap.size, 0, none⟩ = some (.int .i64 0) := ((Var.new wa.drew (.int .i64 0) 3).below hb9).cell; have z9 : w9.frozen? ⟨wa.heap.size, 0, none⟩ = false := ((Var.new wa.drew (.int .i64 0) 3).below hb9).free))))
    · have a1 := b9.alloc b9.size (.cells #[.int .i64 k] 3)
      have a2 := y9.out.below ((Below.refl _ _).alloc (Nat.le_refl _) (.cells #[.int .i64 k] 3))
      have a3 := Var.new w9 (.int .i64 k) 3
      have a4 := b9.size
      generalize w9.alloc (.cells #[.int .i64 k] 3) = w2 at a1 a2 a3 ⊢
      generalize w9.heap.size = q4 at a3 a4 ⊢
      exact hrest.out q4 w2 a1 a2 a3 a4
    · have a1 := b9.setCell (p := ⟨wa.heap.size, 0, none⟩) HBA.out.size (.int .i64 k)
      have a2 : Var (w9.setCell ⟨wa.heap.size, 0, none⟩ (.int .i64 k)) w.heap.size (.func (.yield l) #[] #[]) 100 := (heap_setCell_ne _ _ _ _ (by have := HZA.out; show w.heap.size ≠ wa.heap.size; omega)).trans y9.out
      have a3 := v9.out.set (.int .i64 k)
      have a4 := HBA.out.size
      generalize w9.setCell ⟨wa.heap.size, 0, none⟩ (.int .i64 k) = w2 at a1 a2 a3 ⊢
      generalize wa.heap.size = q4 at a3 a4 ⊢
      exact hrest.out q4 w2 a1 a2 a3 a4
  case rest1 =>
    unfold Hid
    intro q4 w2 hb2 hy2 hv4 hq4
    have HB2 : Hid (Below w.heap.size w w2) := hb2
    have HY2 : Hid (Var w2 w.heap.size (.func (.yield l) #[] #[]) 100) := hy2
    have HV4 : Hid (Var w2 q4 (.int .i64 k) 3) := hv4
    have g4 := hv4.cell
    have l4 := hv4.lt
    obtain ⟨g1, g2, _⟩ := HSS w2 hb2
    have HLF : Hid (∀ W, Below w.heap.size w W → Calls Tryd.prog 38 #[.pointer (some ⟨g, 0, none⟩), .int .i64 k] W fun e w' => e = .returned (.int .i64 (Sk.lastF bs k)) ∧ w' = W) := fun W h => lastFresh_any W B g s _ bs d k (HP.out.below h) HG.out k0 hl
    have z0 := (hb2.cell (p := ⟨g, 0, none⟩) hgl).trans c0
    have y0 := (hb2.cell (p := ⟨a, Sk.lastF bs k * 6, none⟩) ha).trans x0
    clear hb2 hy2 hv4
    go_wp2_with fail
    go_region_held3 (fun w' => w'.cell? ⟨q1, 0, none⟩ = some (.pointer (some ⟨g, 0, none⟩)) ∧ w'.cell? ⟨q4, 0, none⟩ = some (.int .i64 k) ∧ Below w.heap.size w w') ((first | exact ⟨by go_keep, by go_keep, HB2.out.drew⟩ | go_keep)) ((go_at_call 38; refine (HLF.out _ (by first | assumption | exact HB2.out.drew)).mono ?_; rintro e w9 ⟨rfl, rfl⟩))
    have kf : ((Sk.lastF bs k : Nat) : Int) < (bs.length : Int) := by omega
    go_wp2_with fail
    have HB5 : Hid (Below w.heap.size w ((w2.alloc (.cells #[.int .i64 (Sk.bk bs (Sk.lastF bs k)).frm] 3)).drew)) := (HB2.out.alloc HB2.out.size _).drew
    have HY5 : Hid (Var ((w2.alloc (.cells #[.int .i64 (Sk.bk bs (Sk.lastF bs k)).frm] 3)).drew) w.heap.size (.func (.yield l) #[] #[]) 100) := Var.below (w := w2) HY2.out ((Below.refl _ _).alloc (Nat.le_refl _) _).drew
    have HV45 : Hid (Var ((w2.alloc (.cells #[.int .i64 (Sk.bk bs (Sk.lastF bs k)).frm] 3)).drew) q4 (.int .i64 k) 3) := Var.below (w := w2) HV4.out ((Below.refl _ _).alloc (Nat.le_refl _) _).drew
    have HV65 : Hid (Var ((w2.alloc (.cells #[.int .i64 (Sk.bk bs (Sk.lastF bs k)).frm] 3)).drew) w2.heap.size (.int .i64 (Sk.bk bs (Sk.lastF bs k)).frm) 3) := Var.new w2 _ _
    have hq6 := HB2.out.size
    have hcx := hcall q4 w2.heap.size
    have HCX : Hid (∀ W, Below ((w2.alloc (.cells #[.int .i64 (Sk.bk bs (Sk.lastF bs k)).frm] 3)).drew).heap.size ((w2.alloc (.cells #[.int .i64 (Sk.bk bs (Sk.lastF bs k)).frm] 3)).drew) W → Calls Tryd.prog 54 #[.pointer (some ⟨g, 0, none⟩), .int .i64 (Sk.lastF bs k), .int .i64 ((bs.length : Int) - 1), .func (.func 55) #[] #[.pointer (some ⟨q4, 0, none⟩), .pointer (some ⟨w.heap.size, 0, none⟩), .pointer (some ⟨q2, 0, none⟩), .pointer (some ⟨q1, 0, none⟩), .pointer (some ⟨w2.heap.size, 0, none⟩)]] W fun e w3 => (∃ r, e = .returned r) ∧ PFile w3 B g s (.slice (some ⟨a, 0, none⟩) bs.length vcap) bs d ∧ Var w3 q1 (.pointer (some ⟨g, 0, none⟩)) 32 ∧ ∀ v, Post (.returned v) w3) := fun W hW => hcx W (HB5.out.trans (hW.mono HB5.out.size)) (HY5.out.below hW) (HV45.out.below hW) (HV65.out.below hW) hq4 hq6
    have m1 := (HC1.out.below HB5.out).cell
    have m2 := (HB5.out.cell (p := ⟨g, 0, none⟩) hgl).trans c0
    have HW : Hid (∀ W, Below ((w2.alloc (.cells #[.int .i64 (Sk.bk bs (Sk.lastF bs k)).frm] 3)).drew).heap.size ((w2.alloc (.cells #[.int .i64 (Sk.bk bs (Sk.lastF bs k)).frm] 3)).drew) W → W = W) := fun _ _ => rfl
    clear hcx hcall HBK HSS g1 g2 g4 z0 y0 HW
    generalize ((w2.alloc (.cells #[.int .i64 (Sk.bk bs (Sk.lastF bs k)).frm] 3)).drew) = w5 at *
    have hwr : IntKind.i64.wrap ((bs.length : Int) - 1) = (bs.length : Int) - 1 := IntWalk.i64_in _ (by omega)
    go_region_held3 (fun w' => w'.cell? ⟨q1, 0, none⟩ = some (.pointer (some ⟨g, 0, none⟩)) ∧ w'.cell? ⟨g, 0, none⟩ = some (.slice (some ⟨a, 0, none⟩) bs.length vcap)) (go_keep) ((go_at_call 54; refine (HCX.out _ (by first | exact (Below.refl _ _).drew | exact Below.refl _ _)).mono ?_; rintro e w9 ⟨⟨r, rfl⟩, hp9, hv9, hpost⟩; have n1 := hv9.cell; have n2 : w9.cell? ⟨g, 0, none⟩ = some (.slice (some ⟨a, 0, none⟩) bs.length vcap) := (by have := hp9.cell 0; simpa using this); have HPO : Hid (∀ v, Post (.returned v) w9) := hpost; clear hp9 hv9 hpost))
    go_wp2
    go_end0
    exact HPO.out _

set_option maxRecDepth 100000 in
set_option maxHeartbeats 4000000 in
/-- From beyond the data nothing comes. -/
theorem chunks1_out (B g q1 q2 l : Nat) (s : ByteArray) (v : Value) (bs : List Sk.Blk) (d : Nat) (p : Int) (w : World) (hP : PFile w B g s v bs d) (c1 : Var w q1 (.pointer (some ⟨g, 0, none⟩)) 32) (c2 : Var w q2 (.int .i64 p) 3) (hp : p < 0 ∨ (d : Int) ≤ p) :
    Calls Tryd.prog 53 #[.func (.yield l) #[] #[], .pointer (some ⟨q2, 0, none⟩), .pointer (some ⟨q1, 0, none⟩)] w fun e w' => (∃ v, e = .returned v) ∧ Below w.heap.size w w' := by
  have d1 := c1.cell
  have d2 := c2.cell
  have l1 := c1.lt
  have l2 := c2.lt
  have HP : Hid (PFile w B g s v bs d) := hP
  have HC1 : Hid (Var w q1 (.pointer (some ⟨g, 0, none⟩)) 32) := c1
  have HC2 : Hid (Var w q2 (.int .i64 p) 3) := c2
  have HB0 : Hid (Below w.heap.size w (w.alloc (.cells #[.func (.yield l) #[] #[]] 100))) := (Below.refl _ _).alloc (Nat.le_refl _) _
  have e1 := (HC1.out.below HB0.out).cell
  have e2 := (HC2.out.below HB0.out).cell
  have HSZ : Hid (∀ W, Below w.heap.size w W → Calls Tryd.prog 19 #[.pointer (some ⟨g, 0, none⟩)] W fun e w' => e = .returned (.int .i64 d) ∧ w' = W) := fun W h => size_any W B g s v bs d (HP.out.below h)
  clear hP c1 c2
  have hp2 : (∃ n : Nat, p = -((n : Int) + 1)) ∨ (∃ n : Nat, p = (n : Int)) := by
    by_cases h : p < 0
    · exact .inl ⟨(-p - 1).toNat, by omega⟩
    · exact .inr ⟨p.toNat, by omega⟩
  rcases hp2 with ⟨n, rfl⟩ | ⟨n, rfl⟩
  · have b1 : -((n : Int) + 1) < 0 := by omega
    clear hp
    go_enter Tryd.func53, Tryd.ntmps53
    go_wp2_with fail
    generalize (w.alloc (.cells #[.func (.yield l) #[] #[]] 100)) = w0 at *
    go_quiet (fail)
    go_wp2
    refine bodyPost_ret (results_none rfl _ _ _) rfl ?_
    exact ⟨⟨_, rfl⟩, below_drewN HB0.out _⟩
  · have b1 : (d : Int) ≤ (n : Int) := by omega
    clear hp
    go_enter Tryd.func53, Tryd.ntmps53
    go_wp2_with fail
    generalize (w.alloc (.cells #[.func (.yield l) #[] #[]] 100)) = w0 at *
    go_region_held3 (fun w' => w'.cell? ⟨q1, 0, none⟩ = some (.pointer (some ⟨g, 0, none⟩)) ∧ w'.cell? ⟨q2, 0, none⟩ = some (.int .i64 (n : Int)) ∧ Below w.heap.size w w') ((first | exact ⟨by go_keep, by go_keep, HB0.out.drew⟩ | go_keep)) ((go_at_call 19; refine (HSZ.out _ (by first | assumption | exact HB0.out.drew)).mono ?_; rintro e w9 ⟨rfl, rfl⟩))
    go_wp2
    refine bodyPost_ret (results_none rfl _ _ _) rfl ?_
    exact ⟨⟨_, rfl⟩, HB0.out.drew⟩

end Go.Proofs.YtafkpmjifgohcaaDoor
