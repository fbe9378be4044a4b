/- What a script that is read as data, and is not too long, gives a walk: each step whole, its hurts too. -/
import Derived.Test.YtafkpmjifgohcaaGreatDoorAlluptoPart23
import Derived.Test.YtafkpmjifgohcaaGreatDoorAlluptoPart24
import Derived.Test.YtafkpmjifgohcaaGreatDoorAlluptoPart1
namespace Go.Proofs.YtafkpmjifgohcaaGreatDoor
open Go.ChangeShapes Go.WideShapes Go.ChangeAt Go.RowKit Go.Deep

theorem Tryz.cellsHurt : Tryz.prog.cellsOf 95 = 4 := by kernel_rfl

theorem bulk_one {H : Type} (d : DataW H) : 1 ≤ Rows.uptoBulk d := by
  cases d with
  | lit l => cases l <;> simp [Rows.uptoBulk]
  | _ => simp [Rows.uptoBulk]

theorem bulk_mem {H : Type} {d : DataW H} : ∀ {l : List (DataW H)}, d ∈ l → Rows.uptoBulk d ≤ Rows.uptoBulkAll l
  | x :: l, h => by
    rw [Rows.uptoBulkAll]
    rcases List.mem_cons.1 h with rfl | h
    · omega
    · have := bulk_mem h; omega

theorem bulk_length {H : Type} : ∀ l : List (DataW H), l.length ≤ Rows.uptoBulkAll l
  | [] => Nat.zero_le _
  | x :: l => by
    have := bulk_length l
    have := bulk_one x
    rw [Rows.uptoBulkAll, List.length_cons]
    omega

theorem int_cell2 {H : Type} {enc : TypeId × Value → H} {w : World} {base n : Nat} {sp : Nat → Bool} {held : Bool} {v : Value} {x : DataW H × List MemPlace} (h : DataW.trod enc Tryz.prog w base sp held n 3 [v] = some x) : ∃ k : Int, v = .int .i64 k ∧ Fits k := by
  obtain ⟨k, e1, _, e3⟩ := DataW.trod_int Tryz.underlying3 h
  exact ⟨k, by simpa using e1, fits_of_wf e3⟩
theorem str_cell2 {H : Type} {enc : TypeId × Value → H} {w : World} {base n : Nat} {sp : Nat → Bool} {held : Bool} {v : Value} {x : DataW H × List MemPlace} (h : DataW.trod enc Tryz.prog w base sp held n 9 [v] = some x) : ∃ s : ByteArray, v = .string s ∧ s.size ≤ Rows.uptoBulk x.1 := by
  obtain ⟨k, e1, e2, _⟩ := DataW.trod_string Tryz.underlying9 h
  refine ⟨k, by simpa using e1, ?_⟩
  rw [e2]
  have : k.data.toList.length = k.size := Array.length_toList
  simp [Rows.uptoBulk]

theorem list4 {l : List Value} (h : l.length = 4) : ∃ a b c d, l = [a, b, c, d] := by
  match l, h with
  | [a, b, c, d], _ => exact ⟨a, b, c, d, rfl⟩

/-- One hurt, read. -/
theorem hurt_of_trod {H : Type} {enc : TypeId × Value → H} {W : World} {base n b off i : Nat} {sp : Nat → Bool} {held : Bool} {cs : List Value} {x : DataW H × List MemPlace}
    (hc : W.cells? base ((⟨b, off, none⟩ : Addr).add (i * 4)) 4 = some cs) (h : DataW.trod enc Tryz.prog W base sp held n 95 cs = some x) : ∃ k0 k1 k2 k3, HurtAt W b off i k0 k1 k2 k3 := by
  obtain ⟨xs, n1, _, _, hlen, hxs, hf⟩ := DataW.trod_struct Tryz.underlying95 h
  rw [Tryz.cellsHurt] at hlen
  obtain ⟨c0, c1, c2, c3, rfl⟩ := list4 hlen
  have hx4 : xs.length = 4 := hxs
  have get : ∀ j, j < 4 → ∃ y, xs[j]? = some y := fun j hj => ⟨_, List.getElem?_eq_getElem (by omega)⟩
  have f0 := hf 0 _ rfl
  have f1 := hf 1 _ rfl
  have f2 := hf 2 _ rfl
  have f3 := hf 3 _ rfl
  obtain ⟨y0, e0⟩ := get 0 (by decide)
  obtain ⟨y1, e1⟩ := get 1 (by decide)
  obtain ⟨y2, e2⟩ := get 2 (by decide)
  obtain ⟨y3, e3⟩ := get 3 (by decide)
  rw [e0] at f0; rw [e1] at f1; rw [e2] at f2; rw [e3] at f3
  have g0 : DataW.trod enc Tryz.prog W base sp held n1 3 (([c0, c1, c2, c3].drop 0).take (Tryz.prog.cellsOf 3)) = some y0 := f0
  rw [Tryz.cellsInt] at g0
  have g1 : DataW.trod enc Tryz.prog W base sp held n1 3 (([c0, c1, c2, c3].drop 1).take (Tryz.prog.cellsOf 3)) = some y1 := f1
  rw [Tryz.cellsInt] at g1
  have g2 : DataW.trod enc Tryz.prog W base sp held n1 3 (([c0, c1, c2, c3].drop 2).take (Tryz.prog.cellsOf 3)) = some y2 := f2
  rw [Tryz.cellsInt] at g2
  have g3 : DataW.trod enc Tryz.prog W base sp held n1 3 (([c0, c1, c2, c3].drop 3).take (Tryz.prog.cellsOf 3)) = some y3 := f3
  rw [Tryz.cellsInt] at g3
  obtain ⟨k0, rfl, _⟩ := int_cell2 g0
  obtain ⟨k1, rfl, h1⟩ := int_cell2 g1
  obtain ⟨k2, rfl, h2⟩ := int_cell2 g2
  obtain ⟨k3, rfl, h3⟩ := int_cell2 g3
  unfold World.cells? at hc
  split at hc
  · have at' : ∀ j, j < 4 → W.cell? ⟨b, off + i * 4 + j, none⟩ = [Value.int .i64 k0, .int .i64 k1, .int .i64 k2, .int .i64 k3][j]? := fun j hj => by
      have := mapM_some_get hc j j (by simp [hj])
      rw [Go.Deep.add_add, Go.WideShapes.add_plain] at this
      rw [← this, Nat.add_assoc]
    exact ⟨k0, k1, k2, k3, ⟨at' 0 (by decide), at' 1 (by decide), at' 2 (by decide), at' 3 (by decide), h1, h2, h3⟩⟩
  · cases hc

/-- An address at which cells are read is a plain one. -/
theorem spot_of {W : World} {base k : Nat} {a : Addr} {cs : List Value} (h1 : W.cells? base (a.add 0) (k + 1) = some cs) : a.spot = none := by
  unfold World.cells? at h1
  split at h1
  · have := mapM_some_get h1 0 0 (by simp)
    have hl : cs.length = k + 1 := by simpa using mapM_some_length h1
    rw [List.getElem?_eq_getElem (by omega)] at this
    simpa [Addr.add] using World.cell?_spot this
  · cases h1

theorem hurts_cell {H : Type} {enc : TypeId × Value → H} {w : World} {base n : Nat} {sp : Nat → Bool} {held : Bool} {v : Value} {x : DataW H × List MemPlace} (h : DataW.trod enc Tryz.prog w base sp held n 33 [v] = some x) : ∃ a m c, v = .slice a m c ∧ m ≤ Rows.uptoBulk x.1 ∧ Hurts w a m := by
  rcases open_slice Tryz.underlying33 h with ⟨e, _⟩ | ⟨a, len, cap, m, n', D, Pl, e, hb, hl, hm, hmm, hx, hel⟩
  · exact ⟨none, 0, 0, by simpa using e, Nat.zero_le _, hurts_none _ _⟩
  · refine ⟨some a, len, cap, by simpa using e, ?_, fun h0 => ?_⟩
    · rw [hx]
      have := bulk_length ((List.range len).map D)
      simp [Rows.uptoBulk] at this ⊢
      omega
    · have hlm : len ≤ m := by rw [hmm]; split <;> omega
      rw [Tryz.cellsHurt] at hel
      obtain ⟨b, off, spot⟩ := a
      obtain ⟨cs', h1, _⟩ := hel 0 (by omega)
      rw [Nat.zero_mul] at h1
      have hs : spot = none := spot_of h1
      subst hs
      refine ⟨b, off, rfl, fun j hj => ?_⟩
      obtain ⟨cs', h1, h2⟩ := hel j (by omega)
      exact hurt_of_trod h1 h2

/-- One step of a script, read. -/
theorem op_of_trod2 {H : Type} {enc : TypeId × Value → H} {W : World} {base n b off i : Nat} {sp : Nat → Bool} {held : Bool} {cs : List Value} {x : DataW H × List MemPlace} (hk : Rows.uptoBulk x.1 ≤ 1048576)
    (hc : W.cells? base ((⟨b, off, none⟩ : Addr).add (i * 6)) 6 = some cs) (h : DataW.trod enc Tryz.prog W base sp held n 35 cs = some x) : ∃ k0 k1 k2 k3 s y m c, OpOk W b off i k0 k1 k2 k3 s y m c := by
  obtain ⟨xs, n1, _, hxx, hlen, hxs, hf⟩ := DataW.trod_struct Tryz.underlying35 h
  rw [Tryz.cellsOp] at hlen
  obtain ⟨c0, c1, c2, c3, c4, c5, rfl⟩ := list6 hlen
  have hx6 : xs.length = 6 := hxs
  have get : ∀ j, j < 6 → ∃ y, xs[j]? = some y := fun j hj => ⟨_, List.getElem?_eq_getElem (by omega)⟩
  have f0 := hf 0 _ rfl
  have f1 := hf 1 _ rfl
  have f2 := hf 2 _ rfl
  have f3 := hf 3 _ rfl
  have f4 := hf 4 _ rfl
  have f5 := hf 5 _ rfl
  obtain ⟨y0, e0⟩ := get 0 (by decide)
  obtain ⟨y1, e1⟩ := get 1 (by decide)
  obtain ⟨y2, e2⟩ := get 2 (by decide)
  obtain ⟨y3, e3⟩ := get 3 (by decide)
  obtain ⟨y4, e4⟩ := get 4 (by decide)
  obtain ⟨y5, e5⟩ := get 5 (by decide)
  rw [e0] at f0; rw [e1] at f1; rw [e2] at f2; rw [e3] at f3; rw [e4] at f4; rw [e5] at f5
  have g0 : DataW.trod enc Tryz.prog W base sp held n1 3 (([c0, c1, c2, c3, c4, c5].drop 0).take (Tryz.prog.cellsOf 3)) = some y0 := f0
  rw [Tryz.cellsInt] at g0
  have g1 : DataW.trod enc Tryz.prog W base sp held n1 3 (([c0, c1, c2, c3, c4, c5].drop 1).take (Tryz.prog.cellsOf 3)) = some y1 := f1
  rw [Tryz.cellsInt] at g1
  have g2 : DataW.trod enc Tryz.prog W base sp held n1 3 (([c0, c1, c2, c3, c4, c5].drop 2).take (Tryz.prog.cellsOf 3)) = some y2 := f2
  rw [Tryz.cellsInt] at g2
  have g3 : DataW.trod enc Tryz.prog W base sp held n1 3 (([c0, c1, c2, c3, c4, c5].drop 3).take (Tryz.prog.cellsOf 3)) = some y3 := f3
  rw [Tryz.cellsInt] at g3
  have g4 : DataW.trod enc Tryz.prog W base sp held n1 9 (([c0, c1, c2, c3, c4, c5].drop 4).take (Tryz.prog.cellsOf 9)) = some y4 := f4
  rw [Tryz.cellsStr] at g4
  have g5 : DataW.trod enc Tryz.prog W base sp held n1 33 (([c0, c1, c2, c3, c4, c5].drop 5).take (Tryz.prog.cellsOf 33)) = some y5 := f5
  rw [Tryz.cellsHurts] at g5
  obtain ⟨k0, rfl, _⟩ := int_cell2 g0
  obtain ⟨k1, rfl, h1⟩ := int_cell2 g1
  obtain ⟨k2, rfl, h2⟩ := int_cell2 g2
  obtain ⟨k3, rfl, h3⟩ := int_cell2 g3
  obtain ⟨s, rfl, h4⟩ := str_cell2 g4
  obtain ⟨y, m, c, rfl, h5, h6⟩ := hurts_cell g5
  have part : ∀ y : DataW H × List MemPlace, y ∈ xs → Rows.uptoBulk y.1 ≤ 1048576 := fun y hy => by
    rw [hxx, Rows.uptoBulk] at hk
    have := bulk_mem (List.mem_map_of_mem (f := fun z : DataW H × List MemPlace => z.1) hy)
    omega
  have p4 := part y4 (List.mem_of_getElem? e4)
  have p5 := part y5 (List.mem_of_getElem? e5)
  unfold World.cells? at hc
  split at hc
  · have at' : ∀ j, j < 6 → W.cell? ⟨b, off + i * 6 + j, none⟩ = [Value.int .i64 k0, .int .i64 k1, .int .i64 k2, .int .i64 k3, .string s, .slice y m c][j]? := fun j hj => by
      have := mapM_some_get hc j j (by simp [hj])
      rw [Go.Deep.add_add, Go.WideShapes.add_plain] at this
      rw [← this, Nat.add_assoc]
    exact ⟨k0, k1, k2, k3, s, y, m, c, ⟨⟨at' 0 (by decide), at' 1 (by decide), at' 2 (by decide), at' 3 (by decide), at' 4 (by decide), at' 5 (by decide)⟩, h1, h2, h3, by omega, by omega, h6⟩⟩
  · cases hc

/-- A whole script, read. -/
theorem script_of_trod {H : Type} {enc : TypeId × Value → H} {W : World} {n : Nat} {v : Value} {x : DataW H × List MemPlace} (hk : Rows.uptoBulk x.1 ≤ 1048576) (h : DataW.trod enc Tryz.prog W 0 (fun _ => true) true n 22 [v] = some x) :
    ∃ so len cap, v = .slice so len cap ∧ len ≤ 50000000 ∧ (0 < len → ∃ b off, so = some ⟨b, off, none⟩ ∧ ∀ i, i < len → ∃ k0 k1 k2 k3 s x n c, OpOk W b off i k0 k1 k2 k3 s x n c) := by
  rcases open_slice Tryz.underlying22 h with ⟨e, _⟩ | ⟨a, len, cap, m, n', D, Pl, e, hb, hl, hm, hmm, hx, hel⟩
  · exact ⟨none, 0, 0, by simpa using e, by decide, fun h => absurd h (by decide)⟩
  · rw [hx] at hk
    have hlen := bulk_length ((List.range len).map D)
    simp only [Rows.uptoBulk] at hk
    rw [List.length_map, List.length_range] at hlen
    refine ⟨some a, len, cap, by simpa using e, by omega, fun h0 => ?_⟩
    have hlm : len ≤ m := by rw [hmm]; split <;> omega
    rw [Tryz.cellsOp] at hel
    obtain ⟨b, off, spot⟩ := a
    obtain ⟨cs', h1, _⟩ := hel 0 (by omega)
    rw [Nat.zero_mul] at h1
    have hs : spot = none := spot_of h1
    subst hs
    refine ⟨b, off, rfl, fun j hj => ?_⟩
    obtain ⟨cs', h1, h2⟩ := hel j (by omega)
    refine op_of_trod2 ?_ h1 h2
    have := bulk_mem (List.mem_map_of_mem (f := D) (List.mem_range.2 hj))
    show Rows.uptoBulk (D j) ≤ 1048576
    omega
end Go.Proofs.YtafkpmjifgohcaaGreatDoor
