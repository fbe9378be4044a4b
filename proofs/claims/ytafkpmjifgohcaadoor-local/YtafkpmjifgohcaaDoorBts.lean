/- Slices of bytes that a call has made for itself: what such a slice holds, and what an append makes of it. -/
import Derived.Test.YtafkpmjifgohcaaDoorRows
import Derived.Test.YtafkpmjifgohcaaDoorPure
import Derived.WalkKit
import Derived.WalkSpells
import Derived.WalkLawsBesides
import Derived.Deep.Upon
import Derived.Deep.MidRow
import Derived.Laws.IdiomStrings
namespace Go.Proofs.YtafkpmjifgohcaaDoor
open Go.RowKit

theorem add_plain (g j : Nat) : (⟨g, 0, none⟩ : Addr).add j = ⟨g, j, none⟩ := by
  unfold Addr.add
  split <;> simp_all

/-- A byte as a cell. -/
def cellOf (b : UInt8) : Value := .int .u8 b.toNat

theorem cellOf_ofNat (n : Nat) (i : Int) (hi : i = n) (h : n < 256) : Value.int .u8 i = cellOf (UInt8.ofNat n) := by
  subst hi
  unfold cellOf
  rw [UInt8.toNat_ofNat_of_lt' (by simpa using h)]

/-- The slice v holds the bytes L; its array is its own, and may be written to its end. -/
def Bts (w : World) (v : Value) (L : List UInt8) : Prop :=
  (v = .slice none 0 0 ∧ L = []) ∨
  ∃ g cap, v = .slice (some ⟨g, 0, none⟩) L.length cap ∧ L.length ≤ cap ∧ g < w.heap.size ∧ (∀ j, j < cap → (w.cell? ⟨g, j, none⟩).isSome = true) ∧ (∀ j, j < cap → w.frozen? ⟨g, j, none⟩ = false) ∧
    ∀ j (h : j < L.length), w.cell? ⟨g, j, none⟩ = some (cellOf L[j])

/-- What an append leaves: new blocks, and writes to the slice's own array alone; the new slice lies there, or in a new block. -/
structure Gr (w : World) (v : Value) (w' : World) (v' : Value) : Prop where
  os : w'.os = w.os
  tape : w'.tape = w.tape
  output : w'.output = w.output
  size : w.heap.size ≤ w'.heap.size
  block : ∀ k, k < w.heap.size → some k ≠ v.ownBlock → w'.heap[k]? = w.heap[k]?
  own : v'.ownBlock = v.ownBlock ∨ ∃ g, v'.ownBlock = some g ∧ w.heap.size ≤ g

theorem Gr.refl (w : World) (v : Value) : Gr w v w v := ⟨rfl, rfl, rfl, Nat.le_refl _, fun _ _ _ => rfl, .inl rfl⟩

theorem Gr.trans {w w1 w2 : World} {v v1 v2 : Value} (h : Gr w v w1 v1) (h' : Gr w1 v1 w2 v2) : Gr w v w2 v2 where
  os := h'.os.trans h.os
  tape := h'.tape.trans h.tape
  output := h'.output.trans h.output
  size := Nat.le_trans h.size h'.size
  block := fun k hk hne => by
    rw [h'.block k (Nat.lt_of_lt_of_le hk h.size) (fun e => ?_)]
    · exact h.block k hk hne
    · rcases h.own with ho | ⟨g, ho, hg⟩
      · exact hne (e.trans ho)
      · rw [ho] at e; cases e; omega
  own := by
    rcases h'.own with ho | ⟨g, ho, hg⟩
    · rcases h.own with ho' | ⟨g, ho', hg⟩
      · exact .inl (ho.trans ho')
      · exact .inr ⟨g, ho.trans ho', hg⟩
    · exact .inr ⟨g, ho, Nat.le_trans h.size hg⟩

/-- Ahead of it: new blocks alone. -/
theorem Gr.after {w w1 w2 : World} {v v2 : Value} (hb : Below w.heap.size w w1) (h : Gr w1 v w2 v2) : Gr w v w2 v2 where
  os := h.os.trans hb.os
  tape := h.tape.trans hb.tape
  output := h.output.trans hb.output
  size := Nat.le_trans hb.size h.size
  block := fun k hk hne => by rw [h.block k (Nat.lt_of_lt_of_le hk hb.size) hne, hb.block k hk]
  own := by
    rcases h.own with ho | ⟨g, ho, hg⟩
    · exact .inl ho
    · exact .inr ⟨g, ho, Nat.le_trans hb.size hg⟩

theorem Gr.below {w w' : World} {v v' : Value} {B : Nat} (h : Gr w v w' v') (hB : B ≤ w.heap.size) (hv : ∀ k, v.ownBlock = some k → B ≤ k) : Below B w w' :=
  ⟨h.os, h.tape, h.output, h.size, fun k hk => h.block k (by omega) (fun e => by have := hv k e.symm; omega)⟩

theorem Bts.nil (w : World) : Bts w (.slice none 0 0) [] := .inl ⟨rfl, rfl⟩

theorem Bts.lt {w : World} {v : Value} {L : List UInt8} (h : Bts w v L) : ∀ k, v.ownBlock = some k → k < w.heap.size := fun k hk => by
  rcases h with ⟨rfl, _⟩ | ⟨g, cap, rfl, _, hg, _⟩
  · cases hk
  · cases hk; exact hg

/-- A slice keeps what it holds where its array has not changed. -/
theorem Bts.kept {w w' : World} {v : Value} {L : List UInt8} (h : Bts w v L) (hs : w.heap.size ≤ w'.heap.size) (hk : ∀ k, v.ownBlock = some k → w'.heap[k]? = w.heap[k]?) : Bts w' v L := by
  rcases h with ⟨rfl, rfl⟩ | ⟨g, cap, rfl, h1, hg, h2, h3, h4⟩
  · exact .inl ⟨rfl, rfl⟩
  · have hb := hk g rfl
    refine .inr ⟨g, cap, rfl, h1, by omega, fun j hj => ?_, fun j hj => ?_, fun j hj => ?_⟩
    · rw [World.cell?_of_block (a := ⟨g, j, none⟩) hb]; exact h2 j hj
    · rw [World.frozen?_of_block (a := ⟨g, j, none⟩) hb]; exact h3 j hj
    · rw [World.cell?_of_block (a := ⟨g, j, none⟩) hb]; exact h4 j hj

theorem Bts.below {w w' : World} {v : Value} {L : List UInt8} (h : Bts w v L) (hb : Below w.heap.size w w') : Bts w' v L :=
  h.kept hb.size fun k hk => hb.block k (h.lt k hk)

/-- Another slice keeps what it holds. -/
theorem Bts.other {w w' : World} {u v v' : Value} {L : List UInt8} (h : Bts w u L) (hg : Gr w v w' v') (hne : ∀ k, u.ownBlock = some k → some k ≠ v.ownBlock) : Bts w' u L :=
  h.kept hg.size fun k hk => hg.block k (h.lt k hk) (hne k hk)

theorem Gr.cell {w w' : World} {v v' : Value} (h : Gr w v w' v') (a : Addr) (ha : a.block < w.heap.size) (hne : some a.block ≠ v.ownBlock) : w'.cell? a = w.cell? a :=
  World.cell?_of_block (h.block _ ha hne)

/-- A block of the call's own, apart from a slice's array. -/
def Apart (w : World) (v : Value) (k : Nat) : Prop := k < w.heap.size ∧ v.ownBlock ≠ some k

theorem Apart.step {w w' : World} {v v' : Value} {k : Nat} (h : Apart w v k) (hg : Gr w v w' v') : Apart w' v' k := by
  refine ⟨Nat.lt_of_lt_of_le h.1 hg.size, fun e => ?_⟩
  rcases hg.own with ho | ⟨g, ho, hg'⟩
  · exact h.2 (ho.symm.trans e)
  · rw [ho] at e; cases e; have := h.1; omega

theorem Apart.cell {w w' : World} {v v' : Value} {k : Nat} (h : Apart w v k) (hg : Gr w v w' v') (j : Nat) : w'.cell? ⟨k, j, none⟩ = w.cell? ⟨k, j, none⟩ :=
  hg.cell ⟨k, j, none⟩ h.1 (fun e => h.2 e.symm)

theorem tape_setCells (b : Nat) : ∀ (vs : List Value) (o : Nat) (w : World), (w.setCells b o vs).tape = w.tape
  | [], _, _ => rfl
  | v :: r, o, w => by rw [World.setCells, tape_setCells b r]; rfl
theorem size_setCells (b : Nat) : ∀ (vs : List Value) (o : Nat) (w : World), (w.setCells b o vs).heap.size = w.heap.size
  | [], _, _ => rfl
  | v :: r, o, w => by rw [World.setCells, size_setCells b r]; simp

theorem Tryd.infoByte : (Tryd.prog.info? 5).map (fun i => (i.zero, i.size, i.bytes)) = some (some (.int .u8 0), 1, 1) := by kernel_rfl

/-- An append of bytes. -/
theorem run_append_bts (w : World) (ty tx : TypeId) (v x : Value) (L M : List UInt8) (h : Bts w v L) (hs : Src Tryd.prog 1 tx x M.length (M.map cellOf) w) (h0 : 0 < M.length) (hlen : L.length + M.length ≤ 1000000) :
    ∃ v' w', (Builtin.append_ #[53, tx] ty #[v, x]).run Tryd.prog w = .ok v' w' ∧ Bts w' v' (L ++ M) ∧ Gr w v w' v' := by
  obtain ⟨i, hi, hz, hsz, hby⟩ := info_parts Tryd.infoByte
  have hs' : Src Tryd.prog i.size tx x M.length (M.map cellOf) w := by rw [hsz]; exact hs
  have grow : ∀ (base : Option Addr) (cap : Nat), v = .slice base L.length cap → (Builtin.firstCells i.size L.length (.slice base L.length cap)).run Tryd.prog w.drew = .ok (L.map cellOf).toArray w.drew → cap < L.length + M.length →
      ∃ v' w', (Builtin.append_ #[53, tx] ty #[v, x]).run Tryd.prog w = .ok v' w' ∧ Bts w' v' (L ++ M) ∧ Gr w v w' v' := fun base cap hv hold hc => by
    have hr := run_append_grow_src (P := Tryd.prog) w 53 tx ty 5 i (.int .u8 0) Tryd.underlying53 hi hz base L.length cap (L.map cellOf) hold x M.length (M.map cellOf) hs' hc (by omega) (growslice_fits hc (by rw [hby]; omega))
    have hge := grownCap_ge w (L.length + M.length) cap 5
    generalize grownCap w (L.length + M.length) cap 5 = C at hr hge
    subst hv
    refine ⟨_, _, hr, .inr ⟨w.heap.size, C, by rw [List.length_append], by rw [List.length_append]; exact hge, by simp, fun j hj => ?_, fun j hj => ?_, fun j hj => ?_⟩, ?_⟩
    · rw [show (⟨w.heap.size, j, none⟩ : Addr) = ⟨w.drew.heap.size, j, none⟩ from rfl, World.cell?_alloc_new, Array.getElem?_eq_getElem (by simp [Builtin.zeroCells, show (Value.int IntKind.u8 0).cells.size = 1 from rfl]; omega)]; rfl
    · exact World.frozen?_alloc_at (w := w.drew) _ _ _ _ rfl
    · have hj' : j < L.length + M.length := by simpa using hj
      rw [show (⟨w.heap.size, j, none⟩ : Addr) = ⟨w.drew.heap.size, j, none⟩ from rfl, World.cell?_alloc_new, Array.getElem?_append_left (by simpa using hj')]
      rw [List.getElem?_toArray, ← List.map_append, List.getElem?_map, List.getElem?_eq_getElem hj]
      rfl
    · refine ⟨rfl, rfl, rfl, by simp, fun k hk _ => ?_, .inr ⟨w.heap.size, rfl, Nat.le_refl _⟩⟩
      show (w.heap.push _)[k]? = _
      rw [Array.getElem?_push, if_neg (by omega)]
  rcases h with ⟨hv, rfl⟩ | ⟨g, cap, hv, h1, hg, h2, h3, h4⟩
  · exact grow none 0 hv (run_firstCells_none _ _ _ _ _) (by simpa using h0)
  · by_cases hroom : L.length + M.length ≤ cap
    · subst hv
      have hr := run_append_room_src (P := Tryd.prog) w 53 tx ty 5 i Tryd.underlying53 hi g 0 L.length cap x M.length (M.map cellOf) hs' hroom (fun j hj => by rw [hsz]; exact h2 _ (by simp at hj; omega)) (fun j hj => by rw [hsz]; exact h3 _ (by simp at hj; omega))
      rw [hsz] at hr
      simp only [Nat.zero_add, Nat.mul_one] at hr
      refine ⟨_, _, hr, .inr ⟨g, cap, by rw [List.length_append], by rw [List.length_append]; exact hroom, by rw [size_setCells]; exact hg, fun j hj => ?_, fun j hj => ?_, fun j hj => ?_⟩, ?_⟩
      · exact World.isSome_setCells _ _ _ _ _ (h2 j hj)
      · rw [World.frozen?_setCells]; exact h3 j hj
      · have hj' : j < L.length + M.length := by simpa using hj
        by_cases hjl : j < L.length
        · rw [World.cell?_setCells_out _ _ _ _ _ (fun _ _ => .inl hjl), h4 j hjl, List.getElem_append_left hjl]
        · have := World.cell?_setCells_in g (M.map cellOf) L.length w (fun k hk => h2 _ (by simp at hk; omega)) (j - L.length) (by simp; omega)
          rw [show L.length + (j - L.length) = j by omega] at this
          rw [this, List.getElem_map, List.getElem_append_right (by omega)]
      · exact ⟨World.os_setCells _ _ _ _, tape_setCells _ _ _ _, World.output_setCells _ _ _ _, by rw [size_setCells]; exact Nat.le_refl _, fun k hk hne => World.heap_setCells_other _ _ _ _ hk (fun e => hne (by rw [e]; rfl)), .inl rfl⟩
    · refine grow _ _ hv ?_ (by omega)
      exact run_firstCells_some (P := Tryd.prog) w.drew i.size L.length ⟨g, 0, none⟩ L.length cap (L.map cellOf) (by rw [hsz]; simp) (fun j u hj => by
        have hjl : j < L.length := by simpa using (List.getElem?_eq_some_iff.1 hj).1
        have hplain := add_plain (g) j
        rw [hplain]
        show w.cell? _ = _
        rw [h4 j hjl, ← hj, List.getElem?_map, List.getElem?_eq_getElem hjl]
        rfl)

theorem wpList_append_bts {w : World} {ops : Array Oper} {rest : List Oper} {o : Oper} {a : Act} {Q : Exit → Act → World → Prop} (hgd : o.guard = none) (s x : Operand) (tx : TypeId)
    (ho : o.op = .call { callee := .builtin .append, args := #[s, x], argTypes := #[53, tx] })
    (v u : Value) (L M : List UInt8) (hv : a.eval s = v) (hu : a.eval x = u) (h : Bts w v L) (hs : Src Tryd.prog 1 tx u M.length (M.map cellOf) w) (h0 : 0 < M.length) (hlen : L.length + M.length ≤ 1000000)
    (k : ∀ v' w', Bts w' v' (L ++ M) → Gr w v w' v' → wpList Tryd.prog ops Q rest (a.put o.dst v') w') : wpList Tryd.prog ops Q (o :: rest) a w :=
  wpList_plain hgd fun K hK => by
    obtain ⟨v', w', hr, h2, h3⟩ := run_append_bts w o.type tx v u L M h hs h0 hlen
    unfold Oper.wp execOp
    simp only [ho, resolve, invoke, builtin, Sem.run_bind, Sem.run_pure, Result.andThen_ok, List.map_toArray, List.map_cons, List.map_nil, hv, hu, hr]
    exact hK _ _ (k v' w' h2 h3)

/-- What is appended is a string's bytes. -/
theorem src_str (w : World) (M : List UInt8) : Src Tryd.prog 1 9 (.string ⟨M.toArray⟩) M.length (M.map cellOf) w := by
  have := Src.ofString (P := Tryd.prog) w (tx := 9) Tryd.underlying9 ⟨M.toArray⟩
  exact this

/-- What is appended lies in a block that was just made. -/
theorem src_new (w : World) (C : Array Value) (n : Nat) (M : List UInt8) (hn : n = M.length) (hC : C.toList = M.map cellOf) : Src Tryd.prog 1 53 (.slice (some ⟨w.heap.size, 0, none⟩) n n) M.length (M.map cellOf) (w.alloc (.cells C 5)) := by
  subst hn
  refine Src.ofSlice (P := Tryd.prog) _ Tryd.underlying53 _ _ _ _ (by simp) (fun j u hj => ?_) (fun u hu => ?_)
  · have hplain := add_plain (w.heap.size) j
    rw [hplain, World.cell?_alloc_new, ← hj, ← hC]
    simp
  · obtain ⟨b, _, rfl⟩ := List.mem_map.1 hu
    rfl

/-- What is appended is another slice's bytes. -/
theorem src_bts (w : World) (u : Value) (M : List UInt8) (h : Bts w u M) (h0 : 0 < M.length) : Src Tryd.prog 1 53 u M.length (M.map cellOf) w := by
  rcases h with ⟨_, rfl⟩ | ⟨g, cap, rfl, h1, hg, h2, h3, h4⟩
  · cases h0
  · refine Src.ofSlice (P := Tryd.prog) _ Tryd.underlying53 _ _ _ _ (by simp) (fun j u hj => ?_) (fun u hu => ?_)
    · have hjl : j < M.length := by simpa using (List.getElem?_eq_some_iff.1 hj).1
      have hplain := add_plain (g) j
      rw [hplain, h4 j hjl, ← hj, List.getElem?_map, List.getElem?_eq_getElem hjl]
      rfl
    · obtain ⟨b, _, rfl⟩ := List.mem_map.1 hu
      rfl
end Go.Proofs.YtafkpmjifgohcaaDoor
