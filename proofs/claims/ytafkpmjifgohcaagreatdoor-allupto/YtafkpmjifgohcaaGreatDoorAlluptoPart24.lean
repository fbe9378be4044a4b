/- What a script that is read as data gives a walk: each step's six cells. -/
import Derived.Test.YtafkpmjifgohcaaGreatDoorAlluptoPart21
import Derived.ProofKit
import Derived.Deep.Slices
import Derived.SizedLaws
namespace Go.Proofs.YtafkpmjifgohcaaGreatDoor
open Go.ChangeShapes Go.WideShapes Go.ChangeAt Go.RowKit Go.Deep

theorem Tryz.cellsInt : Tryz.prog.cellsOf 3 = 1 := by kernel_rfl
theorem Tryz.cellsStr : Tryz.prog.cellsOf 9 = 1 := by kernel_rfl
theorem Tryz.cellsHurts : Tryz.prog.cellsOf 33 = 1 := by kernel_rfl
theorem Tryz.cellsOp : Tryz.prog.cellsOf 35 = 6 := by kernel_rfl
theorem Tryz.bytesOp : Tryz.prog.bytesOf 35 = 72 := by kernel_rfl
theorem Tryz.laidOut : laidOutB Tryz.prog = true := by kernel_rfl

theorem list6 {l : List Value} (h : l.length = 6) : ∃ a b c d e f, l = [a, b, c, d, e, f] := by
  match l, h with
  | [a, b, c, d, e, f], _ => exact ⟨a, b, c, d, e, f, rfl⟩

theorem int_cell {H : Type} {enc : TypeId × Value → H} {w : World} {base n : Nat} {sp : Nat → Bool} {held : Bool} {v : Value} {x : DataW H × List MemPlace} (h : DataW.trod enc Tryz.prog w base sp held n 3 [v] = some x) : ∃ k : Int, v = .int .i64 k := by
  obtain ⟨k, e1, _, _⟩ := DataW.trod_int Tryz.underlying3 h
  exact ⟨k, by simpa using e1⟩
theorem str_cell {H : Type} {enc : TypeId × Value → H} {w : World} {base n : Nat} {sp : Nat → Bool} {held : Bool} {v : Value} {x : DataW H × List MemPlace} (h : DataW.trod enc Tryz.prog w base sp held n 9 [v] = some x) : ∃ s : ByteArray, v = .string s := by
  obtain ⟨k, e1, _⟩ := DataW.trod_string Tryz.underlying9 h
  exact ⟨k, by simpa using e1⟩
theorem slice_cell {H : Type} {enc : TypeId × Value → H} {w : World} {base n : Nat} {sp : Nat → Bool} {held : Bool} {v : Value} {x : DataW H × List MemPlace} (h : DataW.trod enc Tryz.prog w base sp held n 33 [v] = some x) : ∃ a m c, v = .slice a m c := by
  rcases open_slice Tryz.underlying33 h with ⟨e, _⟩ | ⟨a, len, cap, _, _, _, _, e, _⟩
  · exact ⟨none, 0, 0, by simpa using e⟩
  · exact ⟨some a, len, cap, by simpa using e⟩

/-- One step of a script, read. -/
theorem op_of_trod {H : Type} {enc : TypeId × Value → H} {W : World} {base n b off i : Nat} {sp : Nat → Bool} {held : Bool} {cs : List Value} {x : DataW H × List MemPlace}
    (hc : W.cells? base ((⟨b, off, none⟩ : Addr).add (i * 6)) 6 = some cs) (h : DataW.trod enc Tryz.prog W base sp held n 35 cs = some x) : ∃ k0 k1 k2 k3 s y m c, OpAt W b off i k0 k1 k2 k3 s y m c := by
  obtain ⟨xs, n1, _, _, hlen, hxs, hf⟩ := DataW.trod_struct Tryz.underlying35 h
  rw [Tryz.cellsOp] at hlen
  obtain ⟨c0, c1, c2, c3, c4, c5, rfl⟩ := list6 hlen
  have hx6 : xs.length = 6 := hxs
  have get : ∀ j, j < 6 → ∃ y, xs[j]? = some y := fun j hj => ⟨_, List.getElem?_eq_getElem (by omega)⟩
  have f0 := hf 0 _ rfl
  have f1 := hf 1 _ rfl
  have f2 := hf 2 _ rfl
  have f3 := hf 3 _ rfl
  have f4 := hf 4 _ rfl
  have f5 := hf 5 _ rfl
  obtain ⟨y0, e0⟩ := get 0 (by decide)
  obtain ⟨y1, e1⟩ := get 1 (by decide)
  obtain ⟨y2, e2⟩ := get 2 (by decide)
  obtain ⟨y3, e3⟩ := get 3 (by decide)
  obtain ⟨y4, e4⟩ := get 4 (by decide)
  obtain ⟨y5, e5⟩ := get 5 (by decide)
  rw [e0] at f0; rw [e1] at f1; rw [e2] at f2; rw [e3] at f3; rw [e4] at f4; rw [e5] at f5
  have g0 : DataW.trod enc Tryz.prog W base sp held n1 3 (([c0, c1, c2, c3, c4, c5].drop 0).take (Tryz.prog.cellsOf 3)) = some y0 := f0
  rw [Tryz.cellsInt] at g0
  have g1 : DataW.trod enc Tryz.prog W base sp held n1 3 (([c0, c1, c2, c3, c4, c5].drop 1).take (Tryz.prog.cellsOf 3)) = some y1 := f1
  rw [Tryz.cellsInt] at g1
  have g2 : DataW.trod enc Tryz.prog W base sp held n1 3 (([c0, c1, c2, c3, c4, c5].drop 2).take (Tryz.prog.cellsOf 3)) = some y2 := f2
  rw [Tryz.cellsInt] at g2
  have g3 : DataW.trod enc Tryz.prog W base sp held n1 3 (([c0, c1, c2, c3, c4, c5].drop 3).take (Tryz.prog.cellsOf 3)) = some y3 := f3
  rw [Tryz.cellsInt] at g3
  have g4 : DataW.trod enc Tryz.prog W base sp held n1 9 (([c0, c1, c2, c3, c4, c5].drop 4).take (Tryz.prog.cellsOf 9)) = some y4 := f4
  rw [Tryz.cellsStr] at g4
  have g5 : DataW.trod enc Tryz.prog W base sp held n1 33 (([c0, c1, c2, c3, c4, c5].drop 5).take (Tryz.prog.cellsOf 33)) = some y5 := f5
  rw [Tryz.cellsHurts] at g5
  obtain ⟨k0, rfl⟩ := int_cell g0
  obtain ⟨k1, rfl⟩ := int_cell g1
  obtain ⟨k2, rfl⟩ := int_cell g2
  obtain ⟨k3, rfl⟩ := int_cell g3
  obtain ⟨s, rfl⟩ := str_cell g4
  obtain ⟨y, m, c, rfl⟩ := slice_cell g5
  unfold World.cells? at hc
  split at hc
  · have at' : ∀ j, j < 6 → W.cell? ⟨b, off + i * 6 + j, none⟩ = [Value.int .i64 k0, .int .i64 k1, .int .i64 k2, .int .i64 k3, .string s, .slice y m c][j]? := fun j hj => by
      have := mapM_some_get hc j j (by simp [hj])
      rw [Go.Deep.add_add, Go.WideShapes.add_plain] at this
      rw [← this, Nat.add_assoc]
    exact ⟨k0, k1, k2, k3, s, y, m, c, ⟨at' 0 (by decide), at' 1 (by decide), at' 2 (by decide), at' 3 (by decide), at' 4 (by decide), at' 5 (by decide)⟩⟩
  · cases hc
end Go.Proofs.YtafkpmjifgohcaaGreatDoor
