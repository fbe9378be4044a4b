/- Loops over a function that yields: one that keeps cells of its own between two rounds. -/
import Derived.Test.YtafkpmjifgohcaaDoorChunkeduptoPart2
import Derived.RangeFuncIn
import Derived.RangeFuncRecord
import Derived.RangeFuncSeq
namespace Go.Proofs.YtafkpmjifgohcaaDoor
open Go.RowKit

/-- A function over yield, called in the world w: it yields the list cs in order, as long as it is asked for more, and stands whatever a round changes in the blocks X. -/
def Yields {α : Type} (P : Program) (g : Nat) (lb : Array Value) (encs : α → Array Value) (cs : List α) (X : Nat → Prop) (w : World) : Prop :=
  ∀ (l : Nat) (J Jx : Nat → World → Prop), l + 1 = w.heap.size →
    (∀ i W W', J i W → Below w.heap.size W W' → J i W') → (∀ i W W', Jx i W → Below w.heap.size W W' → Jx i W') →
    (∀ m i x W, cs[i]? = some x → J i W → YieldAt Fence.wide m P l (encs x) W fun e W' =>
      ((e = .returned (.bool true) ∧ J (i + 1) W') ∨ (e = .returned (.bool false) ∧ Jx (i + 1) W')) ∧ Fr (fun k => X k ∨ k = l) W W') →
    J 0 w →
    Calls P g (#[.func (.yield l) #[] #[]] ++ lb) w fun e W' => (∃ v, e = .returned v) ∧ (J cs.length W' ∨ ∃ i, i ≤ cs.length ∧ Jx i W')

/-- How a round may be left. -/
def roundWay (X : Nat → Prop) (I : Nat → World → Prop) (Ix : Code → Nat → World → Prop) (i : Nat) (W : World) : Exit → Act → World → Prop
  | .normal, _, W' => Fr X W W' ∧ I i W'
  | .ret, _, W' => Fr X W W' ∧ Ix .ret i W'
  | .exit id, _, W' => Fr X W W' ∧ Ix (.exit id) i W'
  | .goto t, _, W' => Fr X W W' ∧ Ix (.goto t) i W'
  | .panic _, _, _ => False
  | .outgrown, _, _ => False

theorem fr_putObj (W : World) (l : Nat) (o : Obj) : Fr (fun k => k = l) W (W.putObj l o) :=
  ⟨rfl, rfl, rfl, by simp, fun k _ hk => World.putObj_heap_other hk⟩

theorem range_law {α : Type} {P : Program} {n : Nat} {g : Operand} {ps : Array Tmp} {assign body : Code} {Q : Exit → Act → World → Prop} {a : Act} {w : World} {gf : Nat} {lb : Array Value} (hg : a.eval g = .func (.func gf) #[] lb) (eg : ∀ args w, (callFunc gf args).run P w = .ok (.enter gf args) w)
    {encs : α → Array Value} {cs : List α} {X : Nat → Prop} (hX : ∀ k, X k → k < w.heap.size) (hseq : ∀ W, Below w.heap.size w W → W.heap.size = w.heap.size + 2 → Yields P gf lb encs cs X W) (hps : ∀ x, (encs x).size = ps.size)
    (I : Nat → World → Prop) (Ix : Code → Nat → World → Prop) (hI : ∀ i W W', I i W → Below w.heap.size W W' → I i W') (hIx : ∀ c i W W', Ix c i W → Below w.heap.size W W' → Ix c i W') (h0 : I 0 w) (a₁ : α → Act)
    (hassign : ∀ (m l : Nat) (x : α) (W : World) (K : Act → World → Prop), K (a₁ x) W →
      assign.wpIn (Fence.wide.inRound l) m P (Exit.then K (fun _ _ _ => False)) { tmps := (ps.zip (encs x)).foldl (fun t (p, v) => t.setIfInBounds p v) a.tmps, defers := [] } W)
    (hbody : ∀ (m l i : Nat) (x : α) (W : World), cs[i]? = some x → I i W → w.heap.size ≤ W.heap.size → body.wpIn (Fence.wide.inRound l) m P (roundWay X I Ix (i + 1) W) (a₁ x) W)
    (hdone : ∀ (D : Nat) (W : World), w.heap.size ≤ D → I cs.length W → W.heap[D]? = some (.deferred (some [])) → Q .normal { a with defers := { target := .collected D, args := #[] } :: a.defers } W)
    (hstop : ∀ (D : Nat) (c : Code) (i : Nat) (W : World), w.heap.size ≤ D → i ≤ cs.length → Ix c i W → W.heap[D]? = some (.deferred (some [])) → c.wpIn Fence.wide n P Q { a with defers := { target := .collected D, args := #[] } :: a.defers } W) :
    (Code.rangeFunc g ps assign body).wpIn Fence.wide n P Q a w := by
  refine wpIn_rangeFunc fun fn hfn => ?_
  -- the record of the loop, in a state, with a jump that it keeps
  obtain ⟨R, hR⟩ : ∃ R : LoopState → Option Code → Loop, ∀ st j, R st j = { state := st, pending := j, fn, tmps := a.tmps, params := ps, assign, body, defers := w.heap.size } := ⟨_, fun _ _ => rfl⟩
  have hl1 : ∀ o : Obj, ((w.alloc (.deferred (some []))).alloc o).heap[w.heap.size + 1]? = some o := fun o => by
    have := World.alloc_heap_new (w.alloc (.deferred (some []))) o
    rwa [World.size_alloc] at this
  have hd1 : ∀ o : Obj, ((w.alloc (.deferred (some []))).alloc o).heap[w.heap.size]? = some (.deferred (some [])) := fun o =>
    (Below.heap_alloc _ _ _ (by simp)).trans (World.alloc_heap_new w _)
  have hb1 : ∀ o : Obj, Below w.heap.size w ((w.alloc (.deferred (some []))).alloc o) := fun o => ((Below.refl _ _).alloc (Nat.le_refl _) _).alloc (by simp) _
  have hz1 : ∀ o : Obj, ((w.alloc (.deferred (some []))).alloc o).heap.size = w.heap.size + 2 := fun o => by simp
  -- what holds between two rounds, and behind one that has left
  let J : Nat → World → Prop := fun i W => I i W ∧ W.heap[w.heap.size + 1]? = some (.loop (R .ready none)) ∧ W.heap[w.heap.size]? = some (.deferred (some []))
  let Jx : Nat → World → Prop := fun i W => ∃ c, Ix c i W ∧ W.heap[w.heap.size + 1]? = some (.loop (R .done (some c))) ∧ W.heap[w.heap.size]? = some (.deferred (some []))
  refine ⟨w.heap.size + 1, [{ target := .collected w.heap.size, args := #[] }], (w.alloc (.deferred (some []))).alloc (.loop (R .ready none)), { target := .fn (.func gf) lb, args := #[.func (.yield (w.heap.size + 1)) #[] #[]] }, (w.alloc (.deferred (some []))).alloc (.loop (R .ready none)), gf,
    #[.func (.yield (w.heap.size + 1)) #[] #[]] ++ lb, (w.alloc (.deferred (some []))).alloc (.loop (R .ready none)), ?_, ?_, fun _ _ => trivial, ?_, fun h => ?_, ?_⟩
  · rw [hR]
    exact run_enterLoop_outer _ _ _ _ _
  · simp only [resolve, hg]
    simp [go_sem]
  · simp [invoke, go_sem, eg]
  · simp [Fence.wide] at h
  · refine callsIn_wide.2 ((hseq _ (hb1 _) (hz1 _) (w.heap.size + 1) J Jx (by simp) ?_ ?_ ?_ ⟨hI _ _ _ h0 (hb1 _), hl1 _, hd1 _⟩).mono ?_)
    · rintro i W W' ⟨h1, h2, h3⟩ hb
      rw [hz1] at hb
      exact ⟨hI _ _ _ h1 (hb.mono (by omega)), (hb.block _ (by omega)).trans h2, (hb.block _ (by omega)).trans h3⟩
    · rintro i W W' ⟨c, h1, h2, h3⟩ hb
      rw [hz1] at hb
      exact ⟨c, hIx _ _ _ _ h1 (hb.mono (by omega)), (hb.block _ (by omega)).trans h2, (hb.block _ (by omega)).trans h3⟩
    · -- one round
      rintro m i x W hx ⟨h1, h2, h3⟩
      have hlt : w.heap.size + 1 < W.heap.size := (Array.getElem?_eq_some_iff.1 h2).1
      have hy := run_yield (P := P) (args := encs x) h2 (by rw [hR]; exact hps x)
      rw [hR] at hy
      refine ⟨fn, _, assign, body, hy, roundIn_of_wpIn hfn (hassign m _ x W _ ⟨_, run_beginRound h2 (by rw [hR]), ?_⟩)⟩
      obtain ⟨o2, ho2⟩ : ∃ o2, o2 = Obj.loop { R .ready none with state := .busy } := ⟨_, rfl⟩
      rw [← ho2]
      obtain ⟨W2, hW2⟩ : ∃ W2, W2 = W.putObj (w.heap.size + 1) o2 := ⟨_, rfl⟩
      rw [← hW2]
      have f2 : Fr (fun k => k = w.heap.size + 1) W W2 := by rw [hW2]; exact fr_putObj _ _ _
      have l2 : W2.heap[w.heap.size + 1]? = some o2 := by rw [hW2]; exact World.putObj_heap_same hlt
      have d2 : W2.heap[w.heap.size]? = some (.deferred (some [])) := (f2.block _ (by omega) (by omega)).trans h3
      refine wpIn_mono (hbody m _ i x W2 hx (hI _ _ _ h1 (f2.below (by omega) (fun k hk => by omega))) (by have := f2.size; omega)) ?_
      -- the round's end
      have fin : ∀ (j : Option Code) (W3 : World), Fr X W2 W3 → ∃ W4, (Instr.endRound (w.heap.size + 1) j).run P W3 = .ok (.bool j.isNone) W4 ∧ W4.heap[w.heap.size + 1]? = some (.loop (R (if j.isNone then .ready else .done) j)) ∧ W4.heap[w.heap.size]? = some (.deferred (some [])) ∧ Below w.heap.size W3 W4 ∧ Fr (fun k => X k ∨ k = w.heap.size + 1) W W4 := fun j W3 f3 => by
        have l3 : W3.heap[w.heap.size + 1]? = some o2 := (f3.block _ (by have := f2.size; omega) (fun h => by have := hX _ h; omega)).trans l2
        have d3 : W3.heap[w.heap.size]? = some (.deferred (some [])) := (f3.block _ (by have := f2.size; omega) (fun h => by have := hX _ h; omega)).trans d2
        rw [ho2] at l3
        have hr := run_endRound (P := P) j l3
        have s3 := (Array.getElem?_eq_some_iff.1 l3).1
        refine ⟨_, hr, ?_, ?_, ?_, ?_⟩
        · rw [World.putObj_heap_same s3, hR, hR]
        · exact (World.putObj_heap_other (by omega)).trans d3
        · exact (fr_putObj W3 _ _).below (by omega) (fun k hk => by omega)
        · exact ((f2.mono (fun k hk => Or.inr hk)).then (f3.mono (fun k hk => Or.inl hk)) (fun k _ h => h)).then (fr_putObj W3 _ _) (fun k _ h => Or.inr h)
      rintro e a3 W3 hp
      cases e with
      | normal =>
        obtain ⟨f3, i3⟩ := hp
        obtain ⟨W4, hr, l4, d4, b4, f4⟩ := fin none W3 f3
        exact ⟨_, _, hr, .inl ⟨rfl, hI _ _ _ i3 b4, l4, d4⟩, f4⟩
      | ret =>
        obtain ⟨f3, i3⟩ := hp
        obtain ⟨W4, hr, l4, d4, b4, f4⟩ := fin (some .ret) W3 f3
        exact ⟨_, _, hr, .inr ⟨rfl, .ret, hIx _ _ _ _ i3 b4, l4, d4⟩, f4⟩
      | exit id =>
        obtain ⟨f3, i3⟩ := hp
        obtain ⟨W4, hr, l4, d4, b4, f4⟩ := fin (some (.exit id)) W3 f3
        exact ⟨_, _, hr, .inr ⟨rfl, .exit id, hIx _ _ _ _ i3 b4, l4, d4⟩, f4⟩
      | goto t =>
        obtain ⟨f3, i3⟩ := hp
        obtain ⟨W4, hr, l4, d4, b4, f4⟩ := fin (some (.goto t)) W3 f3
        exact ⟨_, _, hr, .inr ⟨rfl, .goto t, hIx _ _ _ _ i3 b4, l4, d4⟩, f4⟩
      | panic ch => exact hp.elim
      | outgrown => exact hp.elim
    · -- behind the function
      rintro e W2 ⟨⟨v, rfl⟩, hw⟩
      have out : ∀ (j : Option Code) (st : LoopState), st ≠ .busy → W2.heap[w.heap.size + 1]? = some (.loop (R st j)) → W2.heap[w.heap.size]? = some (.deferred (some [])) → ∃ W3, (Instr.endLoop (w.heap.size + 1)).run P W2 = .ok j W3 ∧ Below w.heap.size W2 W3 ∧ W3.heap[w.heap.size]? = some (.deferred (some [])) := fun j st hst hl hd => by
        have hr := run_endLoop (P := P) hl (by rw [hR]; exact hst)
        rw [hR] at hr
        have s2 := (Array.getElem?_eq_some_iff.1 hl).1
        exact ⟨_, hr, (fr_putObj W2 _ _).below (by omega) (fun k hk => by omega), (World.putObj_heap_other (by omega)).trans hd⟩
      rcases hw with ⟨hi, hl, hd⟩ | ⟨i, hi, c, hc, hl, hd⟩
      · obtain ⟨W3, hr, b3, d3⟩ := out none .ready (by simp) hl hd
        exact ⟨none, W3, hr, hdone _ W3 (Nat.le_refl _) (hI _ _ _ hi b3) d3⟩
      · obtain ⟨W3, hr, b3, d3⟩ := out (some c) .done (by simp) hl hd
        exact ⟨some c, W3, hr, hstop _ c i W3 (Nat.le_refl _) hi (hIx _ _ _ _ hc b3) d3⟩
end Go.Proofs.YtafkpmjifgohcaaDoor
