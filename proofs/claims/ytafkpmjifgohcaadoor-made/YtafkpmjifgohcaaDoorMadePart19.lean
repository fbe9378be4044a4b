/- Made returns true for every input: a file that is put together here, of a run and copies of any length from any distance, over two blocks, the second one fresh or not, is read as the document says; the listed variables are tied to the program's text. -/
import Derived.Test.YtafkpmjifgohcaaDoorRows
import Derived.Test.YtafkpmjifgohcaaDoorCards
import Derived.Test.YtafkpmjifgohcaaDoorTie
import Derived.Test.YtafkpmjifgohcaaDoorMadePart18
import Derived.Test.YtafkpmjifgohcaaDoorMadePart14
import Derived.Test.YtafkpmjifgohcaaDoorMadePart1
import Derived.ProofKit
import Derived.OpenShut
import Derived.SevenTiedAt
import Derived.Carry
import Derived.Deep.Slices
namespace Go.Proofs.YtafkpmjifgohcaaDoor
open Go.ChangeShapes Go.WideShapes Go.ChangeAt Go.RowKit Go.Deep
open Go.ChangeMaps (open_string shut_string)

theorem Tryd.laidOutM : laidOutB Tryd.prog = true := by kernel_rfl
theorem Tryd.cellsI : Tryd.prog.cellsOf 3 = 1 := by kernel_rfl

/-- A list of numbers that is read as data holds numbers. -/
theorem ints_of_trod {H : Type} {enc : TypeId × Value → H} {W : World} {a0 : Option Addr} {len cap : Nat} {d : DataW H} {p : List MemPlace} (h : DataW.Trod enc Tryd.prog W 0 (fun _ => true) true 50 (.slice a0 len cap) d p) : IntsAt W a0 len := by
  obtain ⟨fuel, hf⟩ := h
  rcases open_slice Tryd.underlying50 hf with ⟨hcs, hx⟩ | ⟨a, len', cap', m, n, D, Pl, hcs, hb, hl, hm, hmm, hx, hel⟩
  · simp [Value.cells] at hcs
    obtain ⟨rfl, rfl, rfl⟩ := hcs
    exact fun h => absurd h (by decide)
  · simp [Value.cells] at hcs
    obtain ⟨rfl, rfl, rfl⟩ := hcs
    simp only [if_true] at hmm
    subst hmm
    intro hpos
    rw [Tryd.cellsI] at hel
    obtain ⟨b, off, spot⟩ := a
    have one : ∀ i, i < len → ∃ v, W.cell? ((⟨b, off, spot⟩ : Addr).add (i * 1)) = some v ∧ ∃ k : Int, v = .int .i64 k ∧ Fits k := fun i hi => by
      obtain ⟨cs', h1, h2⟩ := hel i (by omega)
      obtain ⟨k, e1, _, e3⟩ := DataW.trod_int Tryd.underlying3 h2
      subst e1
      unfold World.cells? at h1
      split at h1
      · have := mapM_some_get h1 0 0 (by simp)
        refine ⟨.int .i64 k, ?_, k, rfl, fits_of_wf e3⟩
        have hs0 : ((⟨b, off, spot⟩ : Addr).add (i * 1)).add 0 = (⟨b, off, spot⟩ : Addr).add (i * 1) := by
          have := World.cell?_spot (v := .int .i64 k) (by simpa using this)
          cases spot <;> simp [Addr.add] at this ⊢
        rw [hs0] at this
        simpa using this
      · cases h1
    have hspot : spot = none := by
      obtain ⟨v, h1, _⟩ := one 0 hpos
      have := World.cell?_spot h1
      cases spot <;> simp [Addr.add] at this ⊢
    subst hspot
    have hadd : ∀ i, (⟨b, off, none⟩ : Addr).add (i * 1) = ⟨b, off + i, none⟩ := fun i => by simp [Addr.add]
    refine ⟨b, off, rfl, ?_, fun i hi => ?_⟩
    · obtain ⟨v, h1, _⟩ := one 0 hpos
      rw [hadd] at h1
      exact cell_lt h1
    · obtain ⟨v, h1, k, rfl, hk⟩ := one i hi
      rw [hadd] at h1
      exact ⟨k, h1, hk⟩

set_option maxRecDepth 100000 in
theorem made_lifted (os : Os) (started : os.Started) (H : Type) (enc : TypeId × Value → H) :
    ReturnsInHanded {} Tryd.checked os 8 .any (fun w args => (Rows.madeSpec.pre enc Tryd.prog Tryd.f8 [] false w args ∧ laidMetH Tryd.prog sevenLaid w) ∧ sizedMet enc Tryd.prog Tryd.f8 (OpenSpec.ofChange Rows.madeSpec) false w args)
      (Rows.madeSpec.post enc Tryd.prog Tryd.f8 false true false false) := by
  refine returnsInHanded_of_change_and (C := Tryd.checked) (X := fun w _ => laidMetH Tryd.prog sevenLaid w) (fun _ _ _ hh h => h.of_heap hh) ownP started (by kernel_rfl) Tryd.func8
    (ChangeSpec.witness_shaped (enc := enc) (C := Tryd.checked) (os := os) (X := fun w _ => laidMetH Tryd.prog sevenLaid w) false (World.doorLaid Tryd.prog 400 os) #[.string .empty, .slice none 0 0, .slice none 0 0, .bool false] 8 rfl (World.shaped_of_RefB (by kernel_rfl) (by kernel_rfl)) (by kernel_rfl) (by kernel_rfl) (by kernel_rfl) (door_seven os _)) ?_
  intro W base args ds gs before hval0 hW _ _ hL _
  have hval : ∀ (j : Nat) t v, Tryd.f8.params[j]? = some t → args[j]? = some v → Value.okWide Tryd.prog W .any base t v := hval0
  have hW' := hW
  obtain ⟨p, q, hA0, hV, rfl, hfz, hnd⟩ := hW
  have hA : DataW.TrodAll enc Tryd.prog W 0 (fun _ => true) true Tryd.f8.params.toList args.toList ds p := hA0
  rw [Tryd.params8] at hA hval
  obtain ⟨v0, vs0, d0, ds0, p0, q0, hargs, rfl, rfl, h0, r0⟩ := trodAll_cons hA
  obtain ⟨v1, vs1, d1, ds1, p1, q1, rfl, rfl, rfl, h1, r1⟩ := trodAll_cons r0
  obtain ⟨v2, vs2, d2, ds2, p2, q2, rfl, rfl, rfl, h2, r2⟩ := trodAll_cons r1
  obtain ⟨v3, vs3, d3, ds3, p3, q3, rfl, rfl, rfl, h3, r3⟩ := trodAll_cons r2
  obtain ⟨rfl, rfl, rfl⟩ := trodAll_nil r3
  obtain rfl : args = #[v0, v1, v2, v3] := by cases args; simp_all
  obtain ⟨rfl, rfl⟩ := trodVars_none hV
  obtain ⟨s, rfl, rfl, rfl, hmax⟩ := open_string Tryd.underlying9 (hval 0 9 v0 rfl rfl) h0
  obtain ⟨a1, l1, c1, rfl⟩ := okWide_slice Tryd.underlying50 (hval 1 50 v1 rfl rfl)
  obtain ⟨a2, l2, c2, rfl⟩ := okWide_slice Tryd.underlying50 (hval 2 50 v2 rfl rfl)
  obtain ⟨b3, rfl, rfl, rfl⟩ := open_bool Tryd.underlying4 (hval 3 4 v3 rfl rfl) h3
  rw [MakeChecks.laidMetH_plain _ _ _ (by kernel_rfl)] at hL
  obtain ⟨A, hS⟩ := sent_of_laid hL
  clear hA0 hval0
  simp only [List.append_nil, List.nil_append] at hW'
  have hlt1 : ∀ x ∈ p1, x.block < W.heap.size := fun x hx => by simpa using hW'.lt x (by simp [hx])
  have hlt2 : ∀ x ∈ p2, x.block < W.heap.size := fun x hx => by simpa using hW'.lt x (by simp [hx])
  refine (made_law s a1 a2 l1 c1 l2 c2 b3 A W (ints_of_trod h1) (ints_of_trod h2) hS.b).mono fun e W' ⟨he, hw⟩ => ?_
  subst he
  have e1 : Rows.madeSpec.fn H ([.lit (.string s.data.toList), d1, d2, .lit (.bool b3)] ++ []) = { results := [.lit (.bool true)], args := [.lit (.string s.data.toList), d1, d2, .lit (.bool b3)] } := rfl
  refine ⟨_, rfl, _, _, _, [], [] ++ (p1 ++ (p2 ++ ([] ++ []))), [], hW', ?_, ?_, ?_, ?_, fun h => by cases h⟩
  · rw [e1]; exact trodAll_mk1 (shut_bool Tryd.underlying4 true)
  · rw [e1]; exact trodAll_cons_mk (shut_string Tryd.underlying9 hmax) (trodAll_cons_mk (Below.trod Tryd.laidOutM (by kernel_rfl) (of_decide_eq_true (by kernel_rfl)) h1 hw hlt1) (trodAll_cons_mk (Below.trod Tryd.laidOutM (by kernel_rfl) (of_decide_eq_true (by kernel_rfl)) h2 hw hlt2) (trodAll_cons_mk (shut_bool Tryd.underlying4 b3) trodAll_mk0)))
  · rw [e1]; rfl
  · exact hw.frame _

theorem made_holds : Rows.MadeSaid :=
  OpenClaim.holds_of_wide 8 Tryd.f8 rfl rfl rfl rfl rfl rfl rfl ⟨rfl, rfl, rfl, rfl, rfl⟩ rfl rfl rfl rfl rfl (by kernel_rfl) Tryd.func8 (by kernel_rfl)
    (of_decide_eq_true (by kernel_rfl)) (by unfold Func.isWrapper; rw [if_neg (of_decide_eq_false (by kernel_rfl))]; exact ⟨rfl, rfl⟩)
    (fun os started H enc _ => made_lifted os started H enc)

theorem made_card : Rows.MadeCardSaid :=
  Claim7.holds_tied_plain_at .later [] [.sentinel, .sentinel, .sentinel, .sentinel, .sentinel, .sentinel, .sentinel] true (true, "b668beed40d54a53c7b8b6fde40e72dc43ff0b0fcd7a214ee058cad0a7bfe10d") true
    made_holds (fun _ h => by cases h) (by kernel_rfl) (fun _ h => by cases h) made_row_tie rfl ⟨rfl, rfl⟩ (by kernel_rfl) rfl
    (fun f fn hf hfn => by
      obtain rfl : f = 8 := Option.some.inj ((show Tryd.prog.funcNamed "skipper/skipperkeep.Made" = some 8 by kernel_rfl).symm.trans hf) |>.symm
      obtain rfl : fn = Tryd.f8 := (Option.some.inj (Tryd.func8.symm.trans hfn)).symm
      exact ⟨by kernel_rfl, fun j t ht => by
        rw [Tryd.params8] at ht
        have hm : t ∈ [9, 50, 4] := by simpa using Array.mem_of_getElem? ht
        have hall : ([9, 50, 4].all fun u => !Tryd.prog.wantsStandIn u) = true := by kernel_rfl
        exact (show Tryd.prog.wantsStandIn t = false by simpa using List.all_eq_true.1 hall t hm)⟩)
    (by kernel_rfl)
#print axioms made_card
end Go.Proofs.YtafkpmjifgohcaaDoor
