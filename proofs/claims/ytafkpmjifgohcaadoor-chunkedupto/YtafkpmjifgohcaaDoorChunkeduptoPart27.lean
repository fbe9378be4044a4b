/- A region that reads alone, in a round of a loop over a function: one walk serves every order. -/
import Derived.Test.YtafkpmjifgohcaaDoorChunkeduptoPart25
import Derived.RangeFuncCalls
namespace Go.Proofs.YtafkpmjifgohcaaDoor
open Go.RowKit

/-- No operation puts a call off. -/
def noDefer (ops : Array Oper) : Bool := ops.toList.all fun o => match o.op with
  | .defer _ => false
  | _ => true

section
variable {l n : Nat} {P : Program} {md : Region.Mode} {ops : Array Oper} {Q : Exit → Act → World → Prop} {C : World → Prop}
theorem noDefer_at (h : noDefer ops = true) {i : Nat} {o : Oper} (ho : ops[i]? = some o) : ∀ c, o.op ≠ .defer c := fun c e => by
  unfold noDefer at h
  have := List.all_eq_true.1 h o (by
    have := Array.mem_of_getElem? ho
    simpa using this)
  rw [e] at this
  cases this

theorem quiet_round {o : Oper} {a : Act} {K : Act → Prop} {K' : Act → World → Prop} {w : World} (hd : ∀ c, o.op ≠ .defer c) (hw : C w) (h : ∀ a w', C w' → K a → K' a w') (hh : o.quiet P a C K) : o.wpIn (Fence.wide.inRound l) n P a w K' Q := by
  obtain ⟨v, h1, h2⟩ := hh
  have h3 := h1 w hw
  refine ⟨fun _ _ => trivial, ?_⟩
  rw [Oper.semAt_eq _ _ _ hd]
  unfold Oper.quietAt at h3
  generalize (execOp a.eval o).run P w = r at h3
  cases r with
  | ok x w' =>
    cases x with
    | value u =>
      obtain ⟨rfl, rfl⟩ := h3
      exact h _ _ hw h2
    | skip =>
      obtain ⟨rfl, rfl⟩ := h3
      exact h _ _ hw h2
    | enter f args =>
      obtain ⟨rfl, h4⟩ := h3
      refine ⟨fun hd => by simp [Fence.wide] at hd, (CallsIn.inRound l (callsIn_wide.2 h4)).mono ?_⟩
      rintro e w'' ⟨rfl, hc⟩
      exact h _ _ hc h2
    | _ => exact h3.elim
  | _ => exact h3.elim

theorem any_round (hd : noDefer ops = true) {Q' : Act → Prop} (hQ : ∀ a w, C w → Q' a → Q .normal a w) : ∀ (fuel : Nat) (listed : Array Bool) (a : Act) (w : World), C w → wpAnyQ P md ops C Q' fuel listed a → wpAnyIn (Fence.wide.inRound l) n P md ops Q fuel listed a w
  | 0, _, a, w, hC, h => ⟨h.1, hQ a w hC h.2⟩
  | fuel + 1, listed, a, w, hC, h => by
    refine ⟨fun h0 => hQ a w hC (h.1 h0), fun i hi => ?_⟩
    have hq := h.2 i hi
    unfold qOp at hq
    unfold wpOpIn
    cases ho : ops[i]? with
    | none =>
      rw [ho] at hq
      exact any_round hd hQ fuel _ a w hC hq
    | some o =>
      rw [ho] at hq
      simp only at hq ⊢
      split
      · next hw =>
        rw [if_pos hw] at hq
        exact quiet_round (noDefer_at hd ho) hC (fun a' w' hC' h' => any_round hd hQ fuel _ a' w' hC' h') hq
      · next hw =>
        rw [if_neg hw] at hq
        exact ⟨fun _ _ => trivial, any_round hd hQ fuel _ _ w hC hq⟩

theorem region_round {id : Nat} {a : Act} {w : World} (lst : List Oper) (hl : ops = lst.toArray) (hm : P.follows .mixedOrders = true) (hd : noDefer ops = true) (hB : Region.lexB .any ops = true) (hC : C { w with drawn := w.drawn + 1 })
    (h : wpQuiet P ops C (fun a' => ∀ w', C w' → Q .normal a' w') lst a) : (Code.region id ops true).wpIn (Fence.wide.inRound l) n P Q a w := by
  simp only [Region.lexB, Bool.and_eq_true] at hB
  refine wpIn_region_any hm (any_round hd (Q' := fun a' => ∀ w', C w' → Q .normal a' w') (fun _ w' hw' h => h w' hw') _ _ _ _ hC ?_)
  have hlt : ops.toList = lst := by rw [hl]
  have := wpAnyQ_lex (C := C) (md := .any) hB.1 ops.toList 0 (Array.replicate ops.size false) a (by simp) (by simpa using hB.2) (by rw [hlt]; exact h)
  simpa using this
end
end Go.Proofs.YtafkpmjifgohcaaDoor
