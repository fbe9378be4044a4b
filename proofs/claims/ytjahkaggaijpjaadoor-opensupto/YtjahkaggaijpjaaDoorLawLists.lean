/- What the second loop of the law's lists keeps, and its two steps. -/
import Derived.Test.YtjahkaggaijpjaaDoorLawFrame
namespace Go.Proofs.YtjahkaggaijpjaaDoor
open Go.RowKit

theorem drewN_below (w : World) (q : Nat) : Below w.heap.size w (w.drewN q) := below_drewN (Below.refl _ _) q

/-- The state of the loop: lc the present list (n elements, each holding the mark X), va, vm the rows, L, M the lists and marks that they hold; f puts the struct's block together. -/
structure LJ (sz : Nat) (mk : Int → List Value) (m : Int) (w : World) (b : Nat) (va0 vm0 l0 : Value) (S : World → Value → Value → Prop) (bx : Nat) (C : Obj) (wr : World) (n : Nat) (lc va vm : Value) (L : List Value) (M : List Int) : Prop where
  lw : S wr va vm
  bl : b < wr.heap.size
  pr : Pr wr sz mk va vm L M
  rw : Rw wr sz lc n (rep n (mk m))
  sh : ∀ v ∈ L, ∀ a k c, v = .slice a k c → v.ownBlock = lc.ownBlock → k ≤ n
  fr : Fr (fun k => k = b ∨ va0.ownBlock = some k ∨ vm0.ownBlock = some k ∨ l0.ownBlock = some k) w wr
  box : wr.heap[bx]? = some C
  a1 : va.ownBlock ≠ some b ∧ vm.ownBlock ≠ some b ∧ lc.ownBlock ≠ some b ∧ bx ≠ b
  a2 : ∀ k, va.ownBlock = some k → vm.ownBlock ≠ some k ∧ lc.ownBlock ≠ some k ∧ k ≠ bx
  a3 : ∀ k, vm.ownBlock = some k → lc.ownBlock ≠ some k ∧ k ≠ bx
  a4 : lc.ownBlock ≠ some bx
  a5 : ∀ v ∈ L, ∀ k, v.ownBlock = some k → k ≠ b ∧ va.ownBlock ≠ some k ∧ vm.ownBlock ≠ some k ∧ k ≠ bx
  o1 : ∀ k, va.ownBlock = some k → va0.ownBlock = some k ∨ w.heap.size ≤ k
  o2 : ∀ k, vm.ownBlock = some k → vm0.ownBlock = some k ∨ w.heap.size ≤ k
  o3 : ∀ k, lc.ownBlock = some k → l0.ownBlock = some k ∨ w.heap.size ≤ k

section
variable {sz : Nat} {mk : Int → List Value} {m : Int} {w : World} {b : Nat} {va0 vm0 l0 : Value} {S : World → Value → Value → Prop} {bx : Nat} {C : Obj} {wr : World} {n : Nat} {lc va vm : Value} {L : List Value} {M : List Int}

theorem LJ.bxlt (h : LJ sz mk m w b va0 vm0 l0 S bx C wr n lc va vm L M) : bx < wr.heap.size := by
  rcases Nat.lt_or_ge bx wr.heap.size with h' | h'
  · exact h'
  · have := h.box; simp [Array.getElem?_eq_none h'] at this

theorem LJ.entlt (h : LJ sz mk m w b va0 vm0 l0 S bx C wr n lc va vm L M) : ∀ v ∈ L, ∀ k, v.ownBlock = some k → k < wr.heap.size := fun v hv k hk => by
  obtain ⟨i, hi, rfl⟩ := List.getElem_of_mem hv
  obtain ⟨n', hn⟩ := h.pr.ent i hi (by have := h.pr.len; omega)
  exact hn.lt k hk

/-- New blocks alone. -/
theorem LJ.below (h : LJ sz mk m w b va0 vm0 l0 S bx C wr n lc va vm L M) {w' : World} (hb : Below wr.heap.size wr w') (hS : ∀ w1 w2 a c, S w1 a c → w2.heap[b]? = w1.heap[b]? → S w2 a c) : LJ sz mk m w b va0 vm0 l0 S bx C w' n lc va vm L M :=
  { h with
    lw := hS _ _ _ _ h.lw (hb.block b h.bl)
    bl := Nat.lt_of_lt_of_le h.bl hb.size
    pr := h.pr.fr (below_fr hb (fun _ => False)) (fun _ _ h => h) (fun _ _ h => h) (fun _ _ _ _ h => h)
    rw := h.rw.below hb
    fr := h.fr.then (below_fr hb (fun _ => False)) (fun _ _ (h : False) => h.elim)
    box := by rw [hb.block bx h.bxlt]; exact h.box }

/-- The list is one element longer. -/
theorem LJ.growL (h : LJ sz mk m w b va0 vm0 l0 S bx C wr n lc va vm L M) (hS : ∀ w1 w2 a c, S w1 a c → w2.heap[b]? = w1.heap[b]? → S w2 a c) {w' : World} {lc' : Value} (hr : Rw w' sz lc' (n + 1) (rep n (mk m) ++ mk m)) (hg : Gr wr lc w' lc') (hp : Pre wr lc n sz w') :
    LJ sz mk m w b va0 vm0 l0 S bx C w' (n + 1) lc' va vm L M := by
  have own : ∀ k, lc'.ownBlock = some k → lc.ownBlock = some k ∨ wr.heap.size ≤ k := fun k hk => by
    rcases hg.own with ho | ⟨g, ho, hgs⟩
    · exact .inl (ho.symm.trans hk)
    · rw [ho] at hk; cases hk; exact .inr hgs
  have hws := h.fr.size
  refine { lw := hS _ _ _ _ h.lw (hg.block b h.bl (fun e => h.a1.2.2.1 e.symm)), bl := Nat.lt_of_lt_of_le h.bl hg.size, pr := ?_, rw := by rw [rep_succ]; exact hr, sh := ?_, fr := ?_, box := by rw [hg.block bx h.bxlt (fun e => h.a4 e.symm)]; exact h.box, a1 := ?_, a2 := ?_, a3 := ?_, a4 := ?_, a5 := h.a5, o1 := h.o1, o2 := h.o2, o3 := ?_ }
  · refine ⟨h.pr.ra.other hg (fun k hk e => (h.a2 k hk).2.1 e.symm), h.pr.rm.other hg (fun k hk e => (h.a3 k hk).1 e.symm), fun i hi hi' => ?_⟩
    obtain ⟨k, hk⟩ := h.pr.ent i hi hi'
    obtain ⟨a, c, hv⟩ := hk.form
    exact ⟨k, hk.pre hg hp (fun e => h.sh _ (List.getElem_mem hi) a k c hv e)⟩
  · intro v hv a k c hvv e
    rcases hg.own with ho | ⟨g, ho, hgs⟩
    · have := h.sh v hv a k c hvv (e.trans ho); omega
    · have := h.entlt v hv g (e.trans ho); omega
  · refine h.fr.then hg.fr (fun k hk e => ?_)
    rcases h.o3 k e with h' | h'
    · exact .inr (.inr (.inr h'))
    · omega
  · refine ⟨h.a1.1, h.a1.2.1, fun e => ?_, h.a1.2.2.2⟩
    rcases own b e with h' | h'
    · exact h.a1.2.2.1 h'
    · have := h.bl; omega
  · intro k hk
    refine ⟨(h.a2 k hk).1, fun e => ?_, (h.a2 k hk).2.2⟩
    rcases own k e with h' | h'
    · exact (h.a2 k hk).2.1 h'
    · have := h.pr.ra.lt k hk; omega
  · intro k hk
    refine ⟨fun e => ?_, (h.a3 k hk).2⟩
    rcases own k e with h' | h'
    · exact (h.a3 k hk).1 h'
    · have := h.pr.rm.lt k hk; omega
  · intro e
    rcases own bx e with h' | h'
    · exact h.a4 h'
    · have := h.bxlt; omega
  · intro k hk
    rcases own k hk with h' | h'
    · exact h.o3 k h'
    · exact .inr (by omega)

/-- The list is put behind the others, its mark behind theirs: both rows grow, each is stored into the struct. -/
theorem LJ.add (h : LJ sz mk m w b va0 vm0 l0 S bx C wr n lc va vm L M) (hS : ∀ w1 w2 a c, S w1 a c → w2.heap[b]? = w1.heap[b]? → S w2 a c) {w1 w2 w3 w4 : World} {va' vm' : Value}
    (r1 : Rw w1 1 va' (L.length + 1) (L ++ [lc])) (g1 : Gr wr va w1 va') (f2 : Fr (fun k => k = b) w1 w2) (s2 : S w1 va vm → S w2 va' vm)
    (r3 : Rw w3 1 vm' (L.length + 1) (M.map (Value.int .i64) ++ [.int .i64 m])) (g3 : Gr w2 vm w3 vm') (f4 : Fr (fun k => k = b) w3 w4) (s4 : S w3 va' vm → S w4 va' vm') :
    LJ sz mk m w b va0 vm0 l0 S bx C w4 n lc va' vm' (L ++ [lc]) (M ++ [m]) := by
  have z1 := g1.size
  have z2 := f2.size
  have z3 := g3.size
  have z4 := f4.size
  have z0 := h.fr.size
  have ltb := h.bl
  have ownA : ∀ k, va'.ownBlock = some k → va.ownBlock = some k ∨ wr.heap.size ≤ k := fun k hk => by
    rcases g1.own with ho | ⟨g, ho, hgs⟩
    · exact .inl (ho.symm.trans hk)
    · rw [ho] at hk; cases hk; exact .inr hgs
  have ownM : ∀ k, vm'.ownBlock = some k → vm.ownBlock = some k ∨ w2.heap.size ≤ k := fun k hk => by
    rcases g3.own with ho | ⟨g, ho, hgs⟩
    · exact .inl (ho.symm.trans hk)
    · rw [ho] at hk; cases hk; exact .inr hgs
  have ltA : ∀ k, va'.ownBlock = some k → k < w1.heap.size := r1.lt
  have ltm : ∀ k, vm.ownBlock = some k → k < wr.heap.size := h.pr.rm.lt
  have nA : va'.ownBlock ≠ some b := fun e => by
    rcases ownA b e with h' | h'
    · exact h.a1.1 h'
    · omega
  have nM : vm'.ownBlock ≠ some b := fun e => by
    rcases ownM b e with h' | h'
    · exact h.a1.2.1 h'
    · omega
  have nAM : ∀ k, va'.ownBlock = some k → vm.ownBlock ≠ some k := fun k hk e => by
    rcases ownA k hk with h' | h'
    · exact (h.a2 k h').1 e
    · have := ltm k e; omega
  have fall : Fr (fun k => k = b ∨ va.ownBlock = some k ∨ vm.ownBlock = some k) wr w4 := by
    have e1 : Fr (fun k => k = b ∨ va.ownBlock = some k ∨ vm.ownBlock = some k) wr w1 := g1.fr.mono fun k hk => .inr (.inl hk)
    have e2 := e1.then f2 (fun k _ hk => .inl hk)
    have e3 := e2.then g3.fr (fun k _ hk => .inr (.inr hk))
    exact e3.then f4 (fun k _ hk => .inl hk)
  have rowA : Rw w4 1 va' (L.length + 1) (L ++ [lc]) :=
    ((r1.fr f2 (fun k hk e => nA (by rw [hk, e]))).fr g3.fr (fun k hk e => nAM k hk e)).fr f4 (fun k hk e => nA (by rw [hk, e]))
  have rowM : Rw w4 1 vm' (L.length + 1) (M.map (Value.int .i64) ++ [.int .i64 m]) := r3.fr f4 (fun k hk e => nM (by rw [hk, e]))
  have lcnot : ∀ k, lc.ownBlock = some k → ¬ (k = b ∨ va.ownBlock = some k ∨ vm.ownBlock = some k) := fun k hk e => by
    rcases e with rfl | e | e
    · exact h.a1.2.2.1 hk
    · exact (h.a2 k e).2.1 hk
    · exact (h.a3 k e).1 hk
  have rlc : Rw w4 sz lc n (rep n (mk m)) := h.rw.fr fall lcnot
  have entnot : ∀ v ∈ L, ∀ k, v.ownBlock = some k → ¬ (k = b ∨ va.ownBlock = some k ∨ vm.ownBlock = some k) := fun v hv k hk e => by
    have := h.a5 v hv k hk
    rcases e with e | e | e
    · exact this.1 e
    · exact this.2.1 e
    · exact this.2.2.1 e
  have sw2 : S w2 va' vm := s2 (hS _ _ _ _ h.lw (g1.block b ltb (fun e => h.a1.1 e.symm)))
  have sw4 : S w4 va' vm' := s4 (hS _ _ _ _ sw2 (g3.block b (by omega) (fun e => h.a1.2.1 e.symm)))
  refine { lw := sw4, bl := by omega, pr := ?_, rw := rlc, sh := ?_, fr := ?_, box := ?_, a1 := ⟨nA, nM, h.a1.2.2.1, h.a1.2.2.2⟩, a2 := ?_, a3 := ?_, a4 := h.a4, a5 := ?_, o1 := ?_, o2 := ?_, o3 := h.o3 }
  · refine Pr.more lc m rowA rowM h.pr.len (fun i hi hi' => ?_) ⟨n, rlc⟩
    obtain ⟨k, hk⟩ := h.pr.ent i hi hi'
    exact ⟨k, hk.fr fall (fun k' hk' => entnot _ (List.getElem_mem hi) k' hk')⟩
  · intro v hv a k c hvv e
    rcases List.mem_append.1 hv with hv | hv
    · exact h.sh v hv a k c hvv e
    · obtain rfl := List.mem_singleton.1 hv
      obtain ⟨a', c', hf⟩ := h.rw.form
      rw [hf] at hvv
      cases hvv
      exact Nat.le_refl _
  · refine h.fr.then fall (fun k hk e => ?_)
    rcases e with e | e | e
    · exact .inl e
    · rcases h.o1 k e with h' | h'
      · exact .inr (.inl h')
      · omega
    · rcases h.o2 k e with h' | h'
      · exact .inr (.inr (.inl h'))
      · omega
  · rw [fall.block bx h.bxlt (fun e => ?_)]
    · exact h.box
    · rcases e with e | e | e
      · exact h.a1.2.2.2 e
      · exact (h.a2 bx e).2.2 rfl
      · exact (h.a3 bx e).2 rfl
  · intro k hk
    refine ⟨fun e => ?_, fun e => ?_, ?_⟩
    · rcases ownM k e with h' | h'
      · exact nAM k hk h'
      · have := ltA k hk; omega
    · rcases ownA k hk with h' | h'
      · exact (h.a2 k h').2.1 e
      · have := h.rw.lt k e; omega
    · rcases ownA k hk with h' | h'
      · exact (h.a2 k h').2.2
      · have := h.bxlt; omega
  · intro k hk
    refine ⟨fun e => ?_, ?_⟩
    · rcases ownM k hk with h' | h'
      · exact (h.a3 k h').1 e
      · have := h.rw.lt k e; omega
    · rcases ownM k hk with h' | h'
      · exact (h.a3 k h').2
      · have := h.bxlt; omega
  · intro v hv k hk
    have lv : k < wr.heap.size := by
      rcases List.mem_append.1 hv with hv | hv
      · exact h.entlt v hv k hk
      · obtain rfl := List.mem_singleton.1 hv; exact h.rw.lt k hk
    have old : k ≠ b ∧ va.ownBlock ≠ some k ∧ vm.ownBlock ≠ some k ∧ k ≠ bx := by
      rcases List.mem_append.1 hv with hv | hv
      · exact h.a5 v hv k hk
      · obtain rfl := List.mem_singleton.1 hv
        exact ⟨fun e => h.a1.2.2.1 (by rw [hk, e]), fun e => (h.a2 k e).2.1 hk, fun e => (h.a3 k e).1 hk, fun e => h.a4 (by rw [hk, e])⟩
    refine ⟨old.1, fun e => ?_, fun e => ?_, old.2.2.2⟩
    · rcases ownA k e with h' | h'
      · exact old.2.1 h'
      · omega
    · rcases ownM k e with h' | h'
      · exact old.2.2.1 h'
      · omega
  · intro k hk
    rcases ownA k hk with h' | h'
    · exact h.o1 k h'
    · exact .inr (by omega)
  · intro k hk
    rcases ownM k hk with h' | h'
    · exact h.o2 k h'
    · exact .inr (by omega)
end
end Go.Proofs.YtjahkaggaijpjaaDoor
