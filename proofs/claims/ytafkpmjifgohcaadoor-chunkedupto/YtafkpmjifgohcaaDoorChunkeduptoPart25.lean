/- A region whose first operations read alone, and whose last ones wait for all of them: one walk serves every order (inside the widest fence). -/
import Derived.Test.YtafkpmjifgohcaaDoorChunkeduptoPart23
import Derived.OrdersIn
import Derived.Deep.Quiet
namespace Go.Proofs.YtafkpmjifgohcaaDoor
open Go.RowKit

section
variable {F : Fence} {n : Nat} {P : Program} {md : Region.Mode} {ops : Array Oper} {Q : Exit → Act → World → Prop}
theorem any_more : ∀ (fuel : Nat) (listed : Array Bool) (a : Act) (w : World), wpAnyIn F n P md ops Q fuel listed a w → wpAnyIn F n P md ops Q (fuel + 1) listed a w
  | 0, _, _, _, h => ⟨fun _ => h.2, fun i hi => by rw [h.1] at hi; cases hi⟩
  | fuel + 1, listed, a, w, h => ⟨h.1, fun i hi => wpOpIn_mono (fun a' w' h' => any_more fuel _ a' w' h') (h.2 i hi)⟩
theorem any_mores (fuel : Nat) (listed : Array Bool) (a : Act) (w : World) (h : wpAnyIn F n P md ops Q fuel listed a w) : ∀ k, wpAnyIn F n P md ops Q (k + fuel) listed a w
  | 0 => by rw [Nat.zero_add]; exact h
  | k + 1 => by rw [show k + 1 + fuel = (k + fuel) + 1 by omega]; exact any_more _ _ _ _ (any_mores fuel listed a w h k)

/-- Does an operation wait for number j? -/
def waits (md : Region.Mode) (o : Oper) (j : Nat) : Bool := o.after.toList.any fun e => Region.binds md e && e.on == j
theorem waits_iff {o : Oper} {j : Nat} (h : waits md o j = true) : ∃ e ∈ o.after, Region.binds md e = true ∧ e.on = j := by
  unfold waits at h
  obtain ⟨e, he, h2⟩ := List.any_eq_true.1 h
  simp only [Bool.and_eq_true, beq_iff_eq] at h2
  exact ⟨e, by simpa using he, h2⟩

/-- The first L operations have no guard and wait for earlier ones alone; each of them is waited for by a later one, up to L; all behind L wait for one from L on. -/
def frontOk (md : Region.Mode) (ops : Array Oper) (L : Nat) : Bool :=
  (List.range L).all (fun i => match ops[i]? with
    | some o => o.guard.isNone && o.after.toList.all (fun e => !Region.binds md e || decide (e.on < i))
    | none => false) &&
  ((List.range L).all (fun j => (List.range (L + 1)).any (fun i => decide (j < i) && match ops[i]? with
    | some o => waits md o j
    | none => false)) &&
  (List.range ops.size).all (fun i => decide (i ≤ L) || match ops[i]? with
    | some o => o.after.toList.any (fun e => Region.binds md e && decide (L ≤ e.on))
    | none => true))

structure Front (md : Region.Mode) (ops : Array Oper) (L : Nat) : Prop where
  fst : ∀ i, i < L → ∃ o, ops[i]? = some o ∧ o.guard = none ∧ ∀ e ∈ o.after, Region.binds md e = true → e.on < i
  snd : ∀ j, j < L → ∃ i o, j < i ∧ i ≤ L ∧ ops[i]? = some o ∧ ∃ e ∈ o.after, Region.binds md e = true ∧ e.on = j
  thd : ∀ i o, L < i → ops[i]? = some o → ∃ e ∈ o.after, Region.binds md e = true ∧ L ≤ e.on

theorem front_of {L : Nat} (h : frontOk md ops L = true) : Front md ops L := by
  unfold frontOk at h
  simp only [Bool.and_eq_true, List.all_eq_true, List.mem_range] at h
  obtain ⟨h1, h2, h3⟩ := h
  refine ⟨fun i hi => ?_, fun j hj => ?_, fun i o hi ho => ?_⟩
  · have := h1 i hi
    split at this
    · next o ho =>
      simp only [Bool.and_eq_true, Option.isNone_iff_eq_none, List.all_eq_true] at this
      refine ⟨o, ho, this.1, fun e he hb => ?_⟩
      have := this.2 e (by simpa using he)
      rw [hb] at this
      simpa using this
    · cases this
  · obtain ⟨i, hi, h4⟩ := List.any_eq_true.1 (h2 j hj)
    simp only [Bool.and_eq_true, decide_eq_true_eq] at h4
    have hi' := List.mem_range.1 hi
    obtain ⟨h5, h6⟩ := h4
    split at h6
    · next o ho => exact ⟨i, o, h5, by omega, ho, waits_iff h6⟩
    · cases h6
  · have hlt : i < ops.size := (Array.getElem?_eq_some_iff.1 ho).1
    have := h3 i hlt
    rw [ho] at this
    simp only [Bool.or_eq_true, decide_eq_true_eq] at this
    rcases this with c | c
    · omega
    · obtain ⟨e, he, h4⟩ := List.any_eq_true.1 c
      simp only [Bool.and_eq_true, decide_eq_true_eq] at h4
      exact ⟨e, by simpa using he, h4⟩

/-- The first L are listed, the others not. -/
def frontL (N L : Nat) : Array Bool := ((List.range N).map fun i => decide (i < L)).toArray

/-- What is listed so far, in the front and in the whole. -/
structure Lst (md : Region.Mode) (ops : Array Oper) (L : Nat) (lf : Array Bool) (lw : Array Bool) : Prop where
  sf : lf.size = L
  sw : lw.size = ops.size
  eq : ∀ i, i < L → lw[i]? = lf[i]?
  back : ∀ i, L ≤ i → i < ops.size → lw[i]? = some false
  cl : ∀ i o, i < L → ops[i]? = some o → lf.getD i false = true → ∀ e ∈ o.after, Region.binds md e = true → lf.getD e.on false = true

theorem getD_of {x : Array Bool} {i : Nat} {b : Bool} (h : x[i]? = some b) (c : Bool) : x.getD i c = b := by
  simp [Array.getD_eq_getD_getElem?, h]

theorem Lst.get {L : Nat} {lf lw : Array Bool} (h : Lst md ops L lf lw) {i : Nat} (hi : i < L) : ∃ b, lf[i]? = some b ∧ lw[i]? = some b := by
  have := h.sf
  exact ⟨lf[i], Array.getElem?_eq_getElem (by omega), by rw [h.eq i hi]; exact Array.getElem?_eq_getElem (by omega)⟩

/-- If not all of the front is listed, one of it may come up, and none but of it. -/
theorem Lst.low {L : Nat} {lf lw : Array Bool} (hF : Front md ops L) (h : Lst md ops L lf lw) (hn : ∃ i, i < L ∧ lf[i]? = some false) : ∃ i, i ∈ Region.ready md ops lw := by
  obtain ⟨i, hi, hf, hmin⟩ : ∃ i, i < L ∧ lf[i]? = some false ∧ ∀ j, j < i → lf[j]? ≠ some false := by
    obtain ⟨i, hi, hf⟩ := hn
    induction i using Nat.strongRecOn with
    | ind i ih =>
      by_cases c : ∃ j, j < i ∧ lf[j]? = some false
      · obtain ⟨j, hj, hjf⟩ := c
        exact ih j hj (by omega) hjf
      · exact ⟨i, hi, hf, fun j hj e => c ⟨j, hj, e⟩⟩
  obtain ⟨o, ho, _, hd⟩ := hF.fst i hi
  refine ⟨i, mem_ready.2 ⟨getD_of (by rw [h.eq i hi]; exact hf) _, o, ho, fun e he hb => ?_⟩⟩
  have hei := hd e he hb
  obtain ⟨b, hb1, hb2⟩ := h.get (i := e.on) (by omega)
  cases b with
  | true => exact getD_of hb2 _
  | false => exact absurd hb1 (hmin _ hei)

theorem Lst.all_of_last {L : Nat} {lf lw : Array Bool} (hF : Front md ops L) (h : Lst md ops L lf lw) (hL : L ∈ Region.ready md ops lw) : ∀ j, j < L → lf[j]? = some true := by
  obtain ⟨_, oL, hoL, hdL⟩ := mem_ready.1 hL
  have key : ∀ k j, L - j = k → j < L → lf[j]? = some true := by
    intro k
    induction k using Nat.strongRecOn with
    | ind k ih =>
      intro j hk hj
      obtain ⟨i, o, h1, h2, ho, e, he, hb, hon⟩ := hF.snd j hj
      obtain ⟨b, hb1, hb2⟩ := h.get hj
      have hbt : b = true := by
        by_cases hiL : i = L
        · subst hiL
          rw [hoL] at ho
          cases ho
          have := hdL e he hb
          rw [hon, getD_of hb2] at this
          exact this
        · have hi := ih (L - i) (by omega) i rfl (by omega)
          have := h.cl i o (by omega) ho (getD_of hi _) e he hb
          rw [hon, getD_of hb1] at this
          exact this
      rw [hb1, hbt]
  exact fun j hj => key _ j rfl hj

theorem Lst.inFront {L : Nat} {lf lw : Array Bool} (hF : Front md ops L) (h : Lst md ops L lf lw) (hn : ∃ i, i < L ∧ lf[i]? = some false) {i : Nat} (hi : i ∈ Region.ready md ops lw) : i < L := by
  rcases Nat.lt_or_ge i L with c | c
  · exact c
  · exfalso
    rcases Nat.lt_or_ge L i with c2 | c2
    · obtain ⟨_, o, ho, hd⟩ := mem_ready.1 hi
      obtain ⟨e, he, hb, hle⟩ := hF.thd i o c2 ho
      have := hd e he hb
      rcases Nat.lt_or_ge e.on ops.size with c3 | c3
      · rw [getD_of (h.back e.on hle c3)] at this; cases this
      · have hs := h.sw
        rw [Array.getD_eq_getD_getElem?, Array.getElem?_eq_none (by omega)] at this; cases this
    · obtain rfl : i = L := by omega
      obtain ⟨j, hj, hjf⟩ := hn
      rw [h.all_of_last hF hi j hj] at hjf
      cases hjf
end

section
variable {n : Nat} {P : Program} {md : Region.Mode} {ops : Array Oper} {Q : Exit → Act → World → Prop} {C : World → Prop}
theorem quiet_in {o : Oper} {a : Act} {K : Act → Prop} {K' : Act → World → Prop} {w : World} (hw : C w) (h : ∀ a w', C w' → K a → K' a w') (hh : o.quiet P a C K) : o.wpIn Fence.wide n P a w K' Q := by
  obtain ⟨v, h1, h2⟩ := hh
  have h3 := h1 w hw
  refine ⟨fun _ _ => trivial, ?_⟩
  show o.uponIn Fence.wide n P a K' Q ((execOp a.eval o).run P w)
  unfold Oper.quietAt at h3
  generalize (execOp a.eval o).run P w = r at h3
  cases r with
  | ok x w' =>
    cases x with
    | value u =>
      obtain ⟨rfl, rfl⟩ := h3
      exact h _ _ hw h2
    | skip =>
      obtain ⟨rfl, rfl⟩ := h3
      exact h _ _ hw h2
    | enter f args =>
      obtain ⟨rfl, h4⟩ := h3
      refine ⟨fun hd => by simp [Fence.wide] at hd, callsIn_wide.2 (h4.mono ?_)⟩
      rintro e w'' ⟨rfl, hc⟩
      exact h _ _ hc h2
    | _ => exact h3.elim
  | _ => exact h3.elim

theorem front_any {L : Nat} (hF : Front md ops L) (l : List Oper) (hll : ∀ i, i < L → l.toArray[i]? = ops[i]?) (hlen : l.length = L) (hLN : L ≤ ops.size) :
    ∀ (f : Nat) (lf lw : Array Bool) (a : Act) (w : World), Lst md ops L lf lw → C w →
      wpAnyQ P md l.toArray C (fun a' => ∀ w', C w' → wpAnyIn Fence.wide n P md ops Q (ops.size - L) (frontL ops.size L) a' w') f lf a → wpAnyIn Fence.wide n P md ops Q (f + (ops.size - L)) lw a w := by
  have same : ∀ lf lw : Array Bool, Lst md ops L lf lw → (¬ ∃ i, i < L ∧ lf[i]? = some false) → lw = frontL ops.size L := fun lf lw h hn => by
    apply Array.ext
    · rw [h.sw]; simp [frontL]
    · intro i h1 h2
      have hs := h.sw
      have : lw[i]? = (frontL ops.size L)[i]? := by
        have h3 : (frontL ops.size L)[i]? = some (decide (i < L)) := by
          simp [frontL, show i < ops.size by omega]
        rw [h3]
        by_cases c : i < L
        · obtain ⟨b, hb1, hb2⟩ := h.get c
          rw [hb2, decide_eq_true c]
          cases b with
          | true => rfl
          | false => exact absurd ⟨i, c, hb1⟩ hn
        · rw [h.back i (by omega) (by omega), decide_eq_false c]
      simpa [Array.getElem?_eq_getElem, h1, h2] using this
  have rdy : ∀ lf lw : Array Bool, Lst md ops L lf lw → ∀ i, i < L → i ∈ Region.ready md ops lw → i ∈ Region.ready md l.toArray lf := fun lf lw h i hi hr => by
    obtain ⟨h0, o, ho, hd⟩ := mem_ready.1 hr
    obtain ⟨o', ho', _, hlt⟩ := hF.fst i hi
    rw [ho] at ho'
    cases ho'
    obtain ⟨b, hb1, hb2⟩ := h.get hi
    rw [getD_of hb2] at h0
    refine mem_ready.2 ⟨by rw [getD_of hb1]; exact h0, o, by rw [hll i hi]; exact ho, fun e he hb => ?_⟩
    have := hd e he hb
    obtain ⟨b', hb1', hb2'⟩ := h.get (i := e.on) (by have := hlt e he hb; omega)
    rw [getD_of hb2'] at this
    rw [getD_of hb1']
    exact this
  have rdy0 : ∀ lf lw : Array Bool, Lst md ops L lf lw → Region.ready md l.toArray lf = [] → ¬ ∃ i, i < L ∧ lf[i]? = some false := fun lf lw h h0 hn => by
    obtain ⟨i, hi⟩ := h.low hF hn
    have := rdy lf lw h i (h.inFront hF hn hi) hi
    rw [h0] at this
    cases this
  intro f
  induction f with
  | zero =>
    intro lf lw a w h hC hq
    obtain ⟨h0, hQ⟩ := hq
    rw [same lf lw h (rdy0 lf lw h h0), Nat.zero_add]
    exact hQ w hC
  | succ f ih =>
    intro lf lw a w h hC hq
    obtain ⟨hq0, hq1⟩ := hq
    by_cases hn : ∃ i, i < L ∧ lf[i]? = some false
    · rw [show f + 1 + (ops.size - L) = (f + (ops.size - L)) + 1 by omega]
      refine ⟨fun h0 => ?_, fun i hi => ?_⟩
      · obtain ⟨i, hi⟩ := h.low hF hn
        rw [h0] at hi
        cases hi
      · have hiL := h.inFront hF hn hi
        have hq2 := hq1 i (rdy lf lw h i hiL hi)
        obtain ⟨h00, o, ho, hd⟩ := mem_ready.1 hi
        obtain ⟨o', ho', hg, hlt⟩ := hF.fst i hiL
        rw [ho] at ho'
        cases ho'
        have hw : ∀ y, Region.wanted o y = true := fun y => by unfold Region.wanted; rw [hg]
        unfold qOp at hq2
        unfold wpOpIn
        rw [hll i hiL] at hq2
        simp only [ho, hw, if_true] at hq2 ⊢
        have hst : Lst md ops L (lf.setIfInBounds i true) (lw.setIfInBounds i true) := by
          have s1 := h.sf
          have s2 := h.sw
          refine ⟨by simpa using s1, by simpa using s2, fun j hj => ?_, fun j hj1 hj2 => ?_, fun j oj hj hoj hjt e he hb => ?_⟩
          · rw [Array.getElem?_setIfInBounds, Array.getElem?_setIfInBounds, h.eq j hj]
            simp only [s1, s2, show i < L from hiL, show i < ops.size by omega, if_true]
          · rw [Array.getElem?_setIfInBounds, if_neg (by omega)]
            exact h.back j hj1 hj2
          · by_cases hji : j = i
            · subst hji
              rw [hoj] at ho
              cases ho
              have h1 := hd e he hb
              have h2 := hlt e he hb
              obtain ⟨b, hb1, hb2⟩ := h.get (i := e.on) (by omega)
              rw [getD_of hb2] at h1
              exact getD_set_true (getD_of (by rw [hb1, h1]) _)
            · have h1 : lf.getD j false = true := by
                rw [getD_set_ne false (Ne.symm hji)] at hjt
                exact hjt
              exact getD_set_true (h.cl j oj hj hoj h1 e he hb)
        exact quiet_in hC (fun a' w' hC' h' => ih _ _ a' w' hst hC' h') hq2
    · rw [same lf lw h hn]
      have h0 : Region.ready md l.toArray lf = [] := by
        refine List.eq_nil_iff_forall_not_mem.2 fun i hi => ?_
        obtain ⟨h1, o, ho, _⟩ := mem_ready.1 hi
        have hiL : i < L := by
          have := (Array.getElem?_eq_some_iff.1 ho).1
          simpa [hlen] using this
        obtain ⟨b, hb1, _⟩ := h.get hiL
        rw [getD_of hb1] at h1
        exact hn ⟨i, hiL, by rw [hb1, h1]⟩
      exact any_mores _ _ _ _ (hq0 h0 w hC) _

theorem region_front {id L : Nat} {a : Act} {w : World} (l : List Oper) (hm : P.follows .mixedOrders = true) (hok : frontOk .any ops L = true) (hl : ops.toList.take L = l) (hlen : l.length = L) (hB : Region.lexB .any l.toArray = true) (hC : C { w with drawn := w.drawn + 1 })
    (h : wpQuiet P l.toArray C (fun a' => ∀ w', C w' → wpAnyIn Fence.wide n P .any ops Q (ops.size - L) (frontL ops.size L) a' w') l a) : (Code.region id ops true).wpIn Fence.wide n P Q a w := by
  have hLN : L ≤ ops.size := by
    have := congrArg List.length hl
    rw [List.length_take, hlen] at this
    have h2 : ops.toList.length = ops.size := Array.length_toList
    omega
  have hll : ∀ i, i < L → l.toArray[i]? = ops[i]? := fun i hi => by
    rw [← hl]
    simp [hi]
  simp only [Region.lexB, Bool.and_eq_true] at hB
  refine wpIn_region_any hm ?_
  have h1 := wpAnyQ_lex (P := P) (C := C) (md := .any) hB.1 l 0 (Array.replicate l.length false) a (by simp) (by simpa using hB.2) h
  have h2 := front_any (n := n) (Q := Q) (front_of hok) l hll hlen hLN l.length (Array.replicate l.length false) (Array.replicate ops.size false) a { w with drawn := w.drawn + 1 } ⟨by simp [hlen], by simp, fun i hi => by simp [hlen, hi, show i < ops.size by omega], fun i h1 h2 => by simp [h2], fun i o hi ho ht => by
    rw [Array.getD_eq_getD_getElem?] at ht
    simp [hlen, hi] at ht⟩ hC h1
  rw [hlen, show L + (ops.size - L) = ops.size by omega] at h2
  exact h2
end
end Go.Proofs.YtafkpmjifgohcaaDoor
