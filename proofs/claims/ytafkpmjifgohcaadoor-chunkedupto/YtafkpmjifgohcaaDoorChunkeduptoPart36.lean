/- Chunked returns true for every input of at most 1,048,576 values and letters: what Chunks yields of a file that was packed and hurt, from any byte on, to one who leaves behind so many, twice over, is what the document asks; the listed errors are tied to the program's text. -/
import Derived.Test.YtafkpmjifgohcaaDoorRows
import Derived.Test.YtafkpmjifgohcaaDoorCards
import Derived.Test.YtafkpmjifgohcaaDoorTie
import Derived.Test.YtafkpmjifgohcaaDoorChunkeduptoPart34
import Derived.Test.YtafkpmjifgohcaaDoorChunkeduptoPart35
import Derived.Test.YtafkpmjifgohcaaDoorChunkeduptoPart1
import Derived.ProofKit
import Derived.Deep.Slices
import Derived.SizedLaws
import Derived.OpenShut
import Derived.SevenTiedAt
import Derived.Carry
namespace Go.Proofs.YtafkpmjifgohcaaDoor
open Go.ChangeShapes Go.WideShapes Go.ChangeAt Go.RowKit Go.Deep
open Go.ChangeMaps (open_string shut_string)

theorem Tryd.laidOutC : laidOutB Tryd.prog = true := by kernel_rfl
theorem Tryd.cellsIntC : Tryd.prog.cellsOf 3 = 1 := by kernel_rfl
theorem Tryd.cellsHurtC : Tryd.prog.cellsOf 97 = 4 := by kernel_rfl

theorem bulkC_one {H : Type} (d : DataW H) : 1 ≤ Rows.uptoBulk d := by
  cases d with
  | lit l => cases l <;> simp [Rows.uptoBulk]
  | _ => simp [Rows.uptoBulk]

theorem bulkC_mem {H : Type} {d : DataW H} : ∀ {l : List (DataW H)}, d ∈ l → Rows.uptoBulk d ≤ Rows.uptoBulkAll l
  | x :: l, h => by
    rw [Rows.uptoBulkAll]
    rcases List.mem_cons.1 h with rfl | h
    · omega
    · have := bulkC_mem h; omega

theorem bulkC_length {H : Type} : ∀ l : List (DataW H), l.length ≤ Rows.uptoBulkAll l
  | [] => Nat.zero_le _
  | x :: l => by
    have := bulkC_length l
    have := bulkC_one x
    rw [Rows.uptoBulkAll, List.length_cons]
    omega

theorem intC_cell {H : Type} {enc : TypeId × Value → H} {w : World} {base n : Nat} {sp : Nat → Bool} {held : Bool} {v : Value} {x : DataW H × List MemPlace} (h : DataW.trod enc Tryd.prog w base sp held n 3 [v] = some x) : ∃ k : Int, v = .int .i64 k ∧ Fits k := by
  obtain ⟨k, e1, _, e3⟩ := DataW.trod_int Tryd.underlying3 h
  exact ⟨k, by simpa using e1, fits_of_wf e3⟩
theorem listC_four {l : List Value} (h : l.length = 4) : ∃ a b c d, l = [a, b, c, d] := by
  match l, h with
  | [a, b, c, d], _ => exact ⟨a, b, c, d, rfl⟩

theorem hurtC_of_trod {H : Type} {enc : TypeId × Value → H} {W : World} {base n b off i : Nat} {sp : Nat → Bool} {held : Bool} {cs : List Value} {x : DataW H × List MemPlace}
    (hc : W.cells? base ((⟨b, off, none⟩ : Addr).add (i * 4)) 4 = some cs) (h : DataW.trod enc Tryd.prog W base sp held n 97 cs = some x) : ∃ k0 k1 k2 k3, HurtAt W b off i k0 k1 k2 k3 := by
  obtain ⟨xs, n1, _, _, hlen, hxs, hf⟩ := DataW.trod_struct Tryd.underlying97 h
  rw [Tryd.cellsHurtC] at hlen
  obtain ⟨c0, c1, c2, c3, rfl⟩ := listC_four hlen
  have hx4 : xs.length = 4 := hxs
  have get : ∀ j, j < 4 → ∃ y, xs[j]? = some y := fun j hj => ⟨_, List.getElem?_eq_getElem (by omega)⟩
  have f0 := hf 0 _ rfl
  have f1 := hf 1 _ rfl
  have f2 := hf 2 _ rfl
  have f3 := hf 3 _ rfl
  obtain ⟨y0, e0⟩ := get 0 (by decide)
  obtain ⟨y1, e1⟩ := get 1 (by decide)
  obtain ⟨y2, e2⟩ := get 2 (by decide)
  obtain ⟨y3, e3⟩ := get 3 (by decide)
  rw [e0] at f0; rw [e1] at f1; rw [e2] at f2; rw [e3] at f3
  have g0 : DataW.trod enc Tryd.prog W base sp held n1 3 (([c0, c1, c2, c3].drop 0).take (Tryd.prog.cellsOf 3)) = some y0 := f0
  rw [Tryd.cellsIntC] at g0
  have g1 : DataW.trod enc Tryd.prog W base sp held n1 3 (([c0, c1, c2, c3].drop 1).take (Tryd.prog.cellsOf 3)) = some y1 := f1
  rw [Tryd.cellsIntC] at g1
  have g2 : DataW.trod enc Tryd.prog W base sp held n1 3 (([c0, c1, c2, c3].drop 2).take (Tryd.prog.cellsOf 3)) = some y2 := f2
  rw [Tryd.cellsIntC] at g2
  have g3 : DataW.trod enc Tryd.prog W base sp held n1 3 (([c0, c1, c2, c3].drop 3).take (Tryd.prog.cellsOf 3)) = some y3 := f3
  rw [Tryd.cellsIntC] at g3
  obtain ⟨k0, rfl, _⟩ := intC_cell g0
  obtain ⟨k1, rfl, h1⟩ := intC_cell g1
  obtain ⟨k2, rfl, h2⟩ := intC_cell g2
  obtain ⟨k3, rfl, h3⟩ := intC_cell g3
  unfold World.cells? at hc
  split at hc
  · have at' : ∀ j, j < 4 → W.cell? ⟨b, off + i * 4 + j, none⟩ = [Value.int .i64 k0, .int .i64 k1, .int .i64 k2, .int .i64 k3][j]? := fun j hj => by
      have := mapM_some_get hc j j (by simp [hj])
      rw [Go.Deep.add_add, Go.WideShapes.add_plain] at this
      rw [← this, Nat.add_assoc]
    exact ⟨k0, k1, k2, k3, ⟨at' 0 (by decide), at' 1 (by decide), at' 2 (by decide), at' 3 (by decide), h1, h2, h3⟩⟩
  · cases hc

theorem spotC_of {W : World} {base k : Nat} {a : Addr} {cs : List Value} (h1 : W.cells? base (a.add 0) (k + 1) = some cs) : a.spot = none := by
  unfold World.cells? at h1
  split at h1
  · have := mapM_some_get h1 0 0 (by simp)
    have hl : cs.length = k + 1 := by simpa using mapM_some_length h1
    rw [List.getElem?_eq_getElem (by omega)] at this
    simpa [Addr.add] using World.cell?_spot this
  · cases h1

/-- A list of hurts that is read as data, and is not too long. -/
theorem hurts_of_trod {H : Type} {enc : TypeId × Value → H} {W : World} {a0 : Option Addr} {len cap : Nat} {d : DataW H} {p : List MemPlace} (hk : Rows.uptoBulk d ≤ 1048576) (h : DataW.Trod enc Tryd.prog W 0 (fun _ => true) true 61 (.slice a0 len cap) d p) : len ≤ 1048576 ∧ HurtsC W a0 len := by
  obtain ⟨fuel, hf⟩ := h
  rcases open_slice Tryd.underlying61 hf with ⟨hcs, hx⟩ | ⟨a, len', cap', m, n, D, Pl, hcs, hb, hl, hm, hmm, hx, hel⟩
  · simp [Value.cells] at hcs
    obtain ⟨rfl, rfl, rfl⟩ := hcs
    exact ⟨by decide, fun h => absurd h (by decide)⟩
  · simp [Value.cells] at hcs
    obtain ⟨rfl, rfl, rfl⟩ := hcs
    simp only [if_true] at hmm
    subst hmm
    have hd := congrArg Prod.fst hx
    simp only at hd
    rw [hd] at hk
    have hlen := bulkC_length ((List.range len).map D)
    simp only [Rows.uptoBulk] at hk
    rw [List.length_map, List.length_range] at hlen
    refine ⟨by omega, fun hpos => ?_⟩
    rw [Tryd.cellsHurtC] at hel
    obtain ⟨b, off, spot⟩ := a
    obtain ⟨cs', h1, _⟩ := hel 0 (by omega)
    rw [Nat.zero_mul] at h1
    have hs : spot = none := spotC_of h1
    subst hs
    have all : ∀ j, j < len → ∃ k0 k1 k2 k3, HurtAt W b off j k0 k1 k2 k3 := fun j hj => by
      obtain ⟨cs', h1, h2⟩ := hel j (by omega)
      exact hurtC_of_trod h1 h2
    obtain ⟨_, _, _, _, h0⟩ := all 0 hpos
    exact ⟨b, off, rfl, cell_lt h0.c0, all⟩

def sixLaid : List (String × DataW Unit) := [("skipper/api.ErrSize", Rows.laid_skipper_api_ErrSize), ("skipper/api.ErrMagic", Rows.laid_skipper_api_ErrMagic), ("skipper/api.ErrHeader", Rows.laid_skipper_api_ErrHeader), ("skipper/api.ErrEnd", Rows.laid_skipper_api_ErrEnd), ("skipper/api.ErrSum", Rows.laid_skipper_api_ErrSum), ("skipper/api.ErrToken", Rows.laid_skipper_api_ErrToken)]

theorem six_of_laid {W : World} (h : laidMet Tryd.prog sixLaid W) : ∃ A : Nat → Addr, (∀ i, i < 4 → W.cell? ⟨gv i, 0, none⟩ = some (.iface 170 (.pointer (some (A i))))) ∧ SentW W A W.heap.size := by
  obtain ⟨a0, s0, c0, d0, e0, b0⟩ := head_sentinel h Tryd.g0 Tryd.t0
  obtain ⟨a1, s1, c1, d1, e1, b1⟩ := head_sentinel h.tail Tryd.g1 Tryd.t1
  obtain ⟨a2, s2, c2, d2, e2, b2⟩ := head_sentinel h.tail.tail Tryd.g2 Tryd.t2
  obtain ⟨a3, s3, c3, d3, e3, b3⟩ := head_sentinel h.tail.tail.tail Tryd.g3 Tryd.t3
  obtain ⟨a5, s5, c5, d5, e5, b5⟩ := head_sentinel h.tail.tail.tail.tail Tryd.g5 Tryd.t5
  obtain ⟨a6, s6, c6, d6, e6, b6⟩ := head_sentinel h.tail.tail.tail.tail.tail Tryd.g6 Tryd.t6
  refine ⟨fun i => match i with | 0 => a0 | 1 => a1 | 2 => a2 | 3 => a3 | 5 => a5 | _ => a6, fun i hi => ?_, ⟨c5, c6, fun e => ?_, b5, b6, ?_, ?_, ?_⟩⟩
  · match i, hi with
    | 0, _ => exact c0
    | 1, _ => exact c1
    | 2, _ => exact c2
    | 3, _ => exact c3
  · have e' : a6 = a5 := e
    rw [e', d5] at d6
    cases d6
    exact errText_ne 5 (by decide) 6 (by decide) (by decide) (e5.symm.trans e6)
  · have h0 := cell_lt c0
    have h1 := cell_lt c1
    have h2 := cell_lt c2
    have h3 := cell_lt c3
    have h5 := cell_lt c5
    have h6 := cell_lt c6
    first | omega | (simp only [gv] at *; omega)
  · exact (show a5.block < W.heap.size by obtain ⟨x, y, z⟩ := a5; have hz : z = none := World.cell?_spot d5; subst hz; exact cell_lt d5)
  · exact (show a6.block < W.heap.size by obtain ⟨x, y, z⟩ := a6; have hz : z = none := World.cell?_spot d6; subst hz; exact cell_lt d6)

theorem door_six (os : Os) (args : Array Value) : laidMetH Tryd.prog sixLaid ((World.doorLaid Tryd.prog 400 os).forCall (fun _ _ => 0) ⟨#[], args, []⟩).memory :=
  laidMetH_of_parts3 (fuel := 8) (laidMet_of_run' 8 (by kernel_rfl) (by kernel_rfl)) (by kernel_rfl) (by kernel_rfl)

theorem chunked_reads (os : Os) {H : Type} (enc : TypeId × Value → H) : ∃ places, DataW.whole enc Tryd.prog ((World.doorLaid Tryd.prog 400 os).forCall (fun _ _ => 0) ⟨#[], #[.string .empty, .int .i64 0, .int .i64 0, .slice none 0 0, .int .i64 0, .int .i64 0], []⟩).memory Tryd.f10.params.toList Rows.chunkedSpec.vars false #[Value.string .empty, .int .i64 0, .int .i64 0, .slice none 0 0, .int .i64 0, .int .i64 0].toList 8 = some ([.lit (.string []), .lit (.int .i64 0), .lit (.int .i64 0), .nil, .lit (.int .i64 0), .lit (.int .i64 0)], [], places) :=
  ⟨[], by kernel_rfl⟩

set_option maxRecDepth 100000 in
theorem chunked_lifted (os : Os) (started : os.Started) (H : Type) (enc : TypeId × Value → H) (F : Stop.Interp) :
    ReturnsInHanded {} Tryd.checked os 10 .any ((Rows.OpenSpec.upto Rows.chunkedSpec).preRow enc Tryd.prog Tryd.f10 Rows.chunkedUptoRow.domain false Rows.chunkedUptoRow.laid) (((Rows.OpenSpec.upto Rows.chunkedSpec).at F).post enc Tryd.prog Tryd.f10 false true false false) := by
  obtain ⟨places, hx⟩ := chunked_reads os enc
  refine returnsInHanded_of_row (C := Tryd.checked) (s := Rows.OpenSpec.upto Rows.chunkedSpec) ownP started (by kernel_rfl) Tryd.func10
    (witness_row_atRef (enc := enc) (C := Tryd.checked) false (World.doorLaid Tryd.prog 400 os) #[.string .empty, .int .i64 0, .int .i64 0, .slice none 0 0, .int .i64 0, .int .i64 0] rfl (by kernel_rfl) (by kernel_rfl) (by kernel_rfl)
      (OpenSpec.preRow_of_cond 8 hx (by kernel_rfl) (fun k hk => by cases hk; kernel_rfl) (by kernel_rfl) (door_six os _))) ?_
  intro W base args ds gs before hval0 hW _ hcond _ hL _ _
  have hval : ∀ (j : Nat) t v, Tryd.f10.params[j]? = some t → args[j]? = some v → Value.okWide Tryd.prog W .any base t v := hval0
  have hW' := hW
  obtain ⟨p, q, hA0, hV, rfl, hfz, hnd⟩ := hW
  have hA : DataW.TrodAll enc Tryd.prog W 0 (fun _ => true) true Tryd.f10.params.toList args.toList ds p := hA0
  rw [Tryd.params10] at hA hval
  obtain ⟨v0, vs0, d0, ds0, p0, q0, hargs, rfl, rfl, h0, r0⟩ := trodAll_cons hA
  obtain ⟨v1, vs1, d1, ds1, p1, q1, rfl, rfl, rfl, h1, r1⟩ := trodAll_cons r0
  obtain ⟨v2, vs2, d2, ds2, p2, q2, rfl, rfl, rfl, h2, r2⟩ := trodAll_cons r1
  obtain ⟨v3, vs3, d3, ds3, p3, q3, rfl, rfl, rfl, h3, r3⟩ := trodAll_cons r2
  obtain ⟨v4, vs4, d4, ds4, p4, q4, rfl, rfl, rfl, h4, r4⟩ := trodAll_cons r3
  obtain ⟨v5, vs5, d5, ds5, p5, q5, rfl, rfl, rfl, h5, r5⟩ := trodAll_cons r4
  obtain ⟨rfl, rfl, rfl⟩ := trodAll_nil r5
  obtain rfl : args = #[v0, v1, v2, v3, v4, v5] := by cases args; simp_all
  obtain ⟨rfl, rfl⟩ := trodVars_none hV
  have hk : Rows.uptoBulk d3 ≤ 1048576 := by
    have h : Rows.uptoBulkAll ([d0, d1, d2, d3, d4, d5] ++ []) ≤ 1048576 := of_decide_eq_true (hcond _ rfl)
    simp only [List.append_nil, Rows.uptoBulkAll] at h
    omega
  obtain ⟨s, rfl, rfl, rfl, hmax⟩ := open_string Tryd.underlying9 (hval 0 9 v0 rfl rfl) h0
  obtain ⟨n1, rfl, rfl, rfl, hw1⟩ := open_int Tryd.underlying3 (hval 1 3 v1 rfl rfl) h1
  obtain ⟨n2, rfl, rfl, rfl, hw2⟩ := open_int Tryd.underlying3 (hval 2 3 v2 rfl rfl) h2
  obtain ⟨a3, l3, c3, rfl⟩ := okWide_slice Tryd.underlying61 (hval 3 61 v3 rfl rfl)
  obtain ⟨n4, rfl, rfl, rfl, hw4⟩ := open_int Tryd.underlying3 (hval 4 3 v4 rfl rfl) h4
  obtain ⟨n5, rfl, rfl, rfl, hw5⟩ := open_int Tryd.underlying3 (hval 5 3 v5 rfl rfl) h5
  have hL' : laidMetH Tryd.prog sixLaid W := hL
  rw [MakeChecks.laidMetH_plain _ _ _ (by kernel_rfl)] at hL'
  obtain ⟨A, hE, hS⟩ := six_of_laid hL'
  obtain ⟨hlen, hH⟩ := hurts_of_trod hk h3
  clear hA0 hval0
  simp only [List.append_nil, List.nil_append] at hW'
  have hlt3 : ∀ x ∈ p3, x.block < W.heap.size := fun x hx => by simpa using hW'.lt x (by simp [hx])
  refine (chunked_law s n1 n2 n4 n5 a3 l3 c3 A W (fits_of_wf hw1) (fits_of_wf hw2) (fits_of_wf hw4) (fits_of_wf hw5) (by omega) hH hE hS).mono fun e W' ⟨he, hw⟩ => ?_
  subst he
  have e1 : Rows.chunkedSpec.fn H ([.lit (.string s.data.toList), .lit (.int .i64 n1), .lit (.int .i64 n2), d3, .lit (.int .i64 n4), .lit (.int .i64 n5)] ++ []) = { results := [.lit (.bool true)], args := [.lit (.string s.data.toList), .lit (.int .i64 n1), .lit (.int .i64 n2), d3, .lit (.int .i64 n4), .lit (.int .i64 n5)] } := rfl
  refine ⟨_, rfl, ?_⟩
  show Rows.chunkedSpec.post enc Tryd.prog Tryd.f10 false true false false W _ _ W'
  refine ⟨_, _, _, [], [] ++ ([] ++ ([] ++ (p3 ++ ([] ++ ([] ++ []))))), [], hW', ?_, ?_, ?_, hw.frame _, fun h => by cases h⟩
  · rw [e1]; exact trodAll_mk1 (shut_bool Tryd.underlying4 true)
  · rw [e1]; exact trodAll_cons_mk (shut_string Tryd.underlying9 hmax) (trodAll_cons_mk (shut_int Tryd.underlying3 hw1) (trodAll_cons_mk (shut_int Tryd.underlying3 hw2) (trodAll_cons_mk (Below.trod Tryd.laidOutC (by kernel_rfl) (of_decide_eq_true (by kernel_rfl)) h3 hw hlt3) (trodAll_cons_mk (shut_int Tryd.underlying3 hw4) (trodAll_cons_mk (shut_int Tryd.underlying3 hw5) trodAll_mk0)))))
  · rw [e1]; rfl

theorem chunked_holds : Rows.ChunkedUptoSaid :=
  OpenClaim.holds_of_cond 10 Tryd.f10 rfl rfl rfl rfl rfl rfl rfl ⟨rfl, rfl, rfl, rfl, rfl⟩ rfl rfl rfl rfl rfl (by kernel_rfl) Tryd.func10 (by kernel_rfl)
    (of_decide_eq_true (by kernel_rfl)) (by unfold Func.isWrapper; rw [if_neg (of_decide_eq_false (by kernel_rfl))]; exact ⟨rfl, rfl⟩)
    (fun os started H enc _ F => by rw [OpenClaim.pre_eq_preRow]; exact chunked_lifted os started H enc F)

theorem chunked_card : Rows.ChunkedUptoCardSaid :=
  Claim7.holds_tied_plain_at .later [] [.sentinel, .sentinel, .sentinel, .sentinel, .sentinel, .sentinel] true (true, "b668beed40d54a53c7b8b6fde40e72dc43ff0b0fcd7a214ee058cad0a7bfe10d") true
    chunked_holds (fun _ h => by cases h) (by kernel_rfl) (fun _ h => by cases h) chunkedUpto_row_tie rfl ⟨rfl, rfl⟩ (by kernel_rfl) rfl
    (fun f fn hf hfn => by
      obtain rfl : f = 10 := Option.some.inj ((show Tryd.prog.funcNamed "skipper/skipperlaw.Chunked" = some 10 by kernel_rfl).symm.trans hf) |>.symm
      obtain rfl : fn = Tryd.f10 := (Option.some.inj (Tryd.func10.symm.trans hfn)).symm
      exact ⟨by kernel_rfl, fun j t ht => by
        rw [Tryd.params10] at ht
        have hm : t ∈ [9, 3, 61] := by
          have := Array.mem_of_getElem? ht
          simp at this ⊢
          rcases this with e | e | e | e <;> simp [e]
        have hall : ([9, 3, 61].all fun u => !Tryd.prog.wantsStandIn u) = true := by kernel_rfl
        exact (show Tryd.prog.wantsStandIn t = false by simpa using List.all_eq_true.1 hall t hm)⟩)
    (by kernel_rfl)
#print axioms chunked_card
end Go.Proofs.YtafkpmjifgohcaaDoor
