/- What the listed package-level errors give a walk: each holds a pointer to a string cell of its own, and no two of them are one. -/
import Derived.Test.YtafkpmjifgohcaaDoorRows
import Derived.Test.YtafkpmjifgohcaaDoorGv
import Derived.LaidLaws
import Derived.Stop.LaidErr
namespace Go.Proofs.YtafkpmjifgohcaaDoor
open Go.ChangeShapes Go.WideShapes Go.RowKit

theorem Tryd.g0 : Tryd.prog.globalNamed "skipper/api.ErrSize" = some 0 := by kernel_rfl
theorem Tryd.g1 : Tryd.prog.globalNamed "skipper/api.ErrMagic" = some 1 := by kernel_rfl
theorem Tryd.g2 : Tryd.prog.globalNamed "skipper/api.ErrHeader" = some 2 := by kernel_rfl
theorem Tryd.g3 : Tryd.prog.globalNamed "skipper/api.ErrEnd" = some 3 := by kernel_rfl
theorem Tryd.g4 : Tryd.prog.globalNamed "skipper/api.ErrRange" = some 4 := by kernel_rfl
theorem Tryd.g5 : Tryd.prog.globalNamed "skipper/api.ErrSum" = some 5 := by kernel_rfl
theorem Tryd.g6 : Tryd.prog.globalNamed "skipper/api.ErrToken" = some 6 := by kernel_rfl
theorem Tryd.t0 : (Tryd.prog.globals[0]?).map (·.type) = some 23 := by kernel_rfl
theorem Tryd.t1 : (Tryd.prog.globals[1]?).map (·.type) = some 23 := by kernel_rfl
theorem Tryd.t2 : (Tryd.prog.globals[2]?).map (·.type) = some 23 := by kernel_rfl
theorem Tryd.t3 : (Tryd.prog.globals[3]?).map (·.type) = some 23 := by kernel_rfl
theorem Tryd.t4 : (Tryd.prog.globals[4]?).map (·.type) = some 23 := by kernel_rfl
theorem Tryd.t5 : (Tryd.prog.globals[5]?).map (·.type) = some 23 := by kernel_rfl
theorem Tryd.t6 : (Tryd.prog.globals[6]?).map (·.type) = some 23 := by kernel_rfl
theorem Tryd.cellsErr : Tryd.prog.cellsOf 189 = 1 := by kernel_rfl
theorem Tryd.cellsS : Tryd.prog.cellsOf 9 = 1 := by kernel_rfl
theorem Tryd.star : "*" ++ "errors.errorString" = "*errors.errorString" := by decide
theorem Tryd.rowErr (u : TypeId) (h : Tryd.prog.typeName? 3 u = some "*errors.errorString") : u = 170 :=
  typeName_ptr_named (nm := "errors.errorString") (by rw [Tryd.star]; kernel_rfl) (by kernel_rfl) (by decide) u (by rw [Tryd.star]; exact h)

set_option maxRecDepth 100000 in
/-- The head of the list: where the variable points, what lies there, and that its row bears no mark. -/
theorem head_sentinel {n : String} {text : List UInt8} {r : List (String × DataW Unit)} {W : World} {g : Nat}
    (h : laidMet Tryd.prog ((n, .iface "*errors.errorString" (.ptr (.agg [.lit (.string text)]))) :: r) W)
    (hg : Tryd.prog.globalNamed n = some g) (ht : (Tryd.prog.globals[g]?).map (·.type) = some 23) :
    ∃ (a : Addr) (s : ByteArray), W.cell? ⟨g, 0, none⟩ = some (.iface 170 (.pointer (some a))) ∧ W.cell? a = some (.string s) ∧ s.data.toList = text ∧ ∃ c t, W.heap[a.block]? = some (.cells c t (0, 0)) := by
  obtain ⟨ps, ⟨g0, t0, cs0, f0, p0, q0, hg0, ht0, hv0, hd0, _, e0⟩, _, hrows⟩ := h
  obtain rfl := Option.some.inj (hg.symm.trans hg0)
  obtain rfl := Option.some.inj (ht.symm.trans ht0)
  subst e0
  obtain ⟨l0⟩ := cs0
  have ok0 : ∀ u v, l0 = [.iface u v] → Value.okWide Tryd.prog W .any 0 u v := fun u v e => by
    subst e
    exact (hrows g 0 (by simp [MemPlace.row])).2 u v (by simpa using World.var?_cell hg0 hv0 0)
  obtain ⟨a0, s0, rfl, hc0, hs0, hz0, rfl⟩ := errorString_of_trod Tryd.underlying23 Tryd.rowErr Tryd.underlying170 Tryd.underlying189 rfl rfl Tryd.underlying9 Tryd.cellsErr Tryd.cellsS hd0 ok0
  exact ⟨a0, s0, by simpa using World.var?_cell hg0 hv0 0, hc0, hs0, (hrows a0.block a0.off (by simp [MemPlace.row])).1⟩

/-- The seven texts, by their places. -/
def errText : Nat → List UInt8
  | 0 => [115, 107, 105, 112, 112, 101, 114, 58, 32, 115, 105, 122, 101]
  | 1 => [115, 107, 105, 112, 112, 101, 114, 58, 32, 110, 111, 116, 32, 97, 32, 102, 105, 108, 101, 32, 111, 102, 32, 111, 117, 114, 115]
  | 2 => [115, 107, 105, 112, 112, 101, 114, 58, 32, 104, 101, 97, 100, 101, 114]
  | 3 => [115, 107, 105, 112, 112, 101, 114, 58, 32, 116, 104, 101, 32, 102, 105, 108, 101, 32, 101, 110, 100, 115, 32, 116, 111, 111, 32, 101, 97, 114, 108, 121]
  | 4 => [115, 107, 105, 112, 112, 101, 114, 58, 32, 114, 97, 110, 103, 101]
  | 5 => [115, 107, 105, 112, 112, 101, 114, 58, 32, 115, 117, 109]
  | _ => [115, 107, 105, 112, 112, 101, 114, 58, 32, 116, 111, 107, 101, 110]
theorem errText_ne : ∀ i, i < 7 → ∀ j, j < 7 → i ≠ j → errText i ≠ errText j := by decide

/-- What the seven listed errors give. -/
structure Sent (W : World) (A : Nat → Addr) : Prop where
  cell : ∀ i, i < 7 → W.cell? ⟨gv i, 0, none⟩ = some (.iface 170 (.pointer (some (A i))))
  apart : ∀ i j, i < 7 → j < 7 → i ≠ j → A i ≠ A j
  plain : ∀ i, i < 7 → ∃ c t, W.heap[(A i).block]? = some (.cells c t (0, 0))

def sevenLaid : List (String × DataW Unit) := [("skipper/api.ErrSize", Rows.laid_skipper_api_ErrSize), ("skipper/api.ErrMagic", Rows.laid_skipper_api_ErrMagic), ("skipper/api.ErrHeader", Rows.laid_skipper_api_ErrHeader), ("skipper/api.ErrEnd", Rows.laid_skipper_api_ErrEnd), ("skipper/api.ErrRange", Rows.laid_skipper_api_ErrRange), ("skipper/api.ErrSum", Rows.laid_skipper_api_ErrSum), ("skipper/api.ErrToken", Rows.laid_skipper_api_ErrToken)]

theorem sent_of_laid {W : World} (h : laidMet Tryd.prog sevenLaid W) : ∃ A, Sent W A := by
  obtain ⟨a0, s0, c0, d0, e0, b0⟩ := head_sentinel h Tryd.g0 Tryd.t0
  obtain ⟨a1, s1, c1, d1, e1, b1⟩ := head_sentinel h.tail Tryd.g1 Tryd.t1
  obtain ⟨a2, s2, c2, d2, e2, b2⟩ := head_sentinel h.tail.tail Tryd.g2 Tryd.t2
  obtain ⟨a3, s3, c3, d3, e3, b3⟩ := head_sentinel h.tail.tail.tail Tryd.g3 Tryd.t3
  obtain ⟨a4, s4, c4, d4, e4, b4⟩ := head_sentinel h.tail.tail.tail.tail Tryd.g4 Tryd.t4
  obtain ⟨a5, s5, c5, d5, e5, b5⟩ := head_sentinel h.tail.tail.tail.tail.tail Tryd.g5 Tryd.t5
  obtain ⟨a6, s6, c6, d6, e6, b6⟩ := head_sentinel h.tail.tail.tail.tail.tail.tail Tryd.g6 Tryd.t6
  let A : Nat → Addr := fun i => match i with | 0 => a0 | 1 => a1 | 2 => a2 | 3 => a3 | 4 => a4 | 5 => a5 | _ => a6
  have text : ∀ i, i < 7 → ∃ s : ByteArray, W.cell? (A i) = some (.string s) ∧ s.data.toList = errText i := fun i hi =>
    match i, hi with
    | 0, _ => ⟨s0, d0, e0⟩
    | 1, _ => ⟨s1, d1, e1⟩
    | 2, _ => ⟨s2, d2, e2⟩
    | 3, _ => ⟨s3, d3, e3⟩
    | 4, _ => ⟨s4, d4, e4⟩
    | 5, _ => ⟨s5, d5, e5⟩
    | 6, _ => ⟨s6, d6, e6⟩
  refine ⟨A, ⟨fun i hi => ?_, fun i j hi hj hij e => ?_, fun i hi => ?_⟩⟩
  · match i, hi with
    | 0, _ => exact c0
    | 1, _ => exact c1
    | 2, _ => exact c2
    | 3, _ => exact c3
    | 4, _ => exact c4
    | 5, _ => exact c5
    | 6, _ => exact c6
  · obtain ⟨s, hs, ts⟩ := text i hi
    obtain ⟨u, hu, tu⟩ := text j hj
    rw [e, hu] at hs
    cases hs
    exact errText_ne i hi j hj hij (ts.symm.trans tu)
  · match i, hi with
    | 0, _ => exact b0
    | 1, _ => exact b1
    | 2, _ => exact b2
    | 3, _ => exact b3
    | 4, _ => exact b4
    | 5, _ => exact b5
    | 6, _ => exact b6
end Go.Proofs.YtafkpmjifgohcaaDoor
