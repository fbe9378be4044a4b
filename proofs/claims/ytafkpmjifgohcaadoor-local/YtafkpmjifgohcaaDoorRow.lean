/- Slices that a call has made for itself, of elements of any size: what such a slice holds, and what an append makes of it. -/
import Derived.Test.YtafkpmjifgohcaaDoorBts
import Derived.Deep.RegionHeld3
import Derived.Deep.DrawnRows
namespace Go.Proofs.YtafkpmjifgohcaaDoor
open Go.RowKit

/-- The slice v, of n elements of sz cells, holds the cells xs; its array is its own, and may be written to its end. -/
def Rw (w : World) (sz : Nat) (v : Value) (n : Nat) (xs : List Value) : Prop :=
  xs.length = n * sz ∧ ((v = .slice none 0 0 ∧ n = 0) ∨
  ∃ g cap, v = .slice (some ⟨g, 0, none⟩) n cap ∧ n ≤ cap ∧ g < w.heap.size ∧ (∀ j, j < cap * sz → (w.cell? ⟨g, j, none⟩).isSome = true) ∧ (∀ j, j < cap * sz → w.frozen? ⟨g, j, none⟩ = false) ∧
    ∀ j (h : j < xs.length), w.cell? ⟨g, j, none⟩ = some xs[j])

theorem Rw.nil (w : World) (sz : Nat) : Rw w sz (.slice none 0 0) 0 [] := ⟨by simp, .inl ⟨rfl, rfl⟩⟩

theorem Rw.lt {w : World} {sz n : Nat} {v : Value} {xs : List Value} (h : Rw w sz v n xs) : ∀ k, v.ownBlock = some k → k < w.heap.size := fun k hk => by
  rcases h.2 with ⟨rfl, _⟩ | ⟨g, cap, rfl, _, hg, _⟩
  · cases hk
  · cases hk; exact hg

theorem Rw.kept {w w' : World} {sz n : Nat} {v : Value} {xs : List Value} (h : Rw w sz v n xs) (hs : w.heap.size ≤ w'.heap.size) (hk : ∀ k, v.ownBlock = some k → w'.heap[k]? = w.heap[k]?) : Rw w' sz v n xs := by
  refine ⟨h.1, ?_⟩
  rcases h.2 with ⟨rfl, h0⟩ | ⟨g, cap, rfl, h1, hg, h2, h3, h4⟩
  · exact .inl ⟨rfl, h0⟩
  · have hb := hk g rfl
    refine .inr ⟨g, cap, rfl, h1, by omega, fun j hj => ?_, fun j hj => ?_, fun j hj => ?_⟩
    · rw [World.cell?_of_block (a := ⟨g, j, none⟩) hb]; exact h2 j hj
    · rw [World.frozen?_of_block (a := ⟨g, j, none⟩) hb]; exact h3 j hj
    · rw [World.cell?_of_block (a := ⟨g, j, none⟩) hb]; exact h4 j hj

theorem Rw.below {w w' : World} {sz n : Nat} {v : Value} {xs : List Value} (h : Rw w sz v n xs) (hb : Below w.heap.size w w') : Rw w' sz v n xs :=
  h.kept hb.size fun k hk => hb.block k (h.lt k hk)

theorem Rw.other {w w' : World} {sz n : Nat} {u v v' : Value} {xs : List Value} (h : Rw w sz u n xs) (hg : Gr w v w' v') (hne : ∀ k, u.ownBlock = some k → some k ≠ v.ownBlock) : Rw w' sz u n xs :=
  h.kept hg.size fun k hk => hg.block k (h.lt k hk) (hne k hk)

/-- A cell of what it holds. -/
theorem Rw.cell {w : World} {sz n g cap : Nat} {xs : List Value} (h : Rw w sz (.slice (some ⟨g, 0, none⟩) n cap) n xs) (j : Nat) (hj : j < xs.length) : w.cell? ⟨g, j, none⟩ = some xs[j] := by
  rcases h.2 with ⟨e, _⟩ | ⟨g', cap', e, _, _, _, _, h4⟩
  · cases e
  · cases e; exact h4 j hj

/-- What an append leaves of the slice's own array: what it holds stays, and no cell goes or is frozen. -/
def Pre (w : World) (v : Value) (n sz : Nat) (w' : World) : Prop :=
  ∀ g, v.ownBlock = some g → (∀ j, j < n * sz → w'.cell? ⟨g, j, none⟩ = w.cell? ⟨g, j, none⟩) ∧ (∀ j, (w.cell? ⟨g, j, none⟩).isSome = true → (w'.cell? ⟨g, j, none⟩).isSome = true) ∧ ∀ j, w'.frozen? ⟨g, j, none⟩ = w.frozen? ⟨g, j, none⟩

/-- Another slice over the same array, not longer, keeps what it holds. -/
theorem Rw.pre {w w' : World} {sz n m : Nat} {u v v' : Value} {xs : List Value} (h : Rw w sz u m xs) (hg : Gr w v w' v') (hp : Pre w v n sz w') (hm : u.ownBlock = v.ownBlock → m ≤ n) : Rw w' sz u m xs := by
  by_cases he : u.ownBlock = v.ownBlock
  · refine ⟨h.1, ?_⟩
    rcases h.2 with ⟨rfl, h0⟩ | ⟨g, cap, rfl, h1, hgl, h2, h3, h4⟩
    · exact .inl ⟨rfl, h0⟩
    · obtain ⟨p1, p2, p3⟩ := hp g he.symm
      have hmn := Nat.mul_le_mul_right sz (hm he)
      have hl := h.1
      exact .inr ⟨g, cap, rfl, h1, Nat.lt_of_lt_of_le hgl hg.size, fun j hj => p2 j (h2 j hj), fun j hj => by rw [p3]; exact h3 j hj, fun j hj => by rw [p1 j (by omega)]; exact h4 j hj⟩
  · exact h.other hg (fun k hk e => he (hk.trans e))

/-- An append. -/
theorem run_append_rw (w : World) (t tx ty e : TypeId) (i : TypeInfo) (z : Value) (sz bytes : Nat) (ht : Tryd.prog.underlying t = some (.slice e)) (hi : Tryd.prog.info? e = some i) (hz : i.zero = some z) (hsz : i.size = sz) (hby : i.bytes = bytes) (hzs : z.cells.size = sz)
    (v x : Value) (n m : Nat) (xs news : List Value) (h : Rw w sz v n xs) (hs : Src Tryd.prog sz tx x m news w) (h0 : 0 < m) (hlen : (n + m) * bytes ≤ 140737488355328) (h63 : n + m ≤ 1000000000000) :
    ∃ g cap w', (Builtin.append_ #[t, tx] ty #[v, x]).run Tryd.prog w = .ok (.slice (some ⟨g, 0, none⟩) (n + m) cap) w' ∧ Rw w' sz (.slice (some ⟨g, 0, none⟩) (n + m) cap) (n + m) (xs ++ news) ∧ Gr w v w' (.slice (some ⟨g, 0, none⟩) (n + m) cap) ∧ Pre w v n sz w' := by
  have hs' : Src Tryd.prog i.size tx x m news w := by rw [hsz]; exact hs
  have hnl : news.length = m * sz := hs.newsLen
  have hxl : xs.length = n * sz := h.1
  have htot : (xs ++ news).length = (n + m) * sz := by rw [List.length_append, hnl, hxl, Nat.add_mul]
  have grow : ∀ (base : Option Addr) (cap : Nat), v = .slice base n cap → (Builtin.firstCells i.size n (.slice base n cap)).run Tryd.prog w.drew = .ok xs.toArray w.drew → cap < n + m → (∀ k, v.ownBlock = some k → k < w.heap.size) →
      ∃ g cap w', (Builtin.append_ #[t, tx] ty #[v, x]).run Tryd.prog w = .ok (.slice (some ⟨g, 0, none⟩) (n + m) cap) w' ∧ Rw w' sz (.slice (some ⟨g, 0, none⟩) (n + m) cap) (n + m) (xs ++ news) ∧ Gr w v w' (.slice (some ⟨g, 0, none⟩) (n + m) cap) ∧ Pre w v n sz w' := fun base cap hv hold hc hlt => by
    have hr := run_append_grow_src (P := Tryd.prog) w t tx ty e i z ht hi hz base n cap xs hold x m news hs' hc (by omega) (growslice_fits hc (by rw [hby]; exact hlen))
    have hge := grownCap_ge w (n + m) cap e
    generalize grownCap w (n + m) cap e = C at hr hge
    subst hv
    have hz2 : (Builtin.zeroCells z.cells (C - (n + m))).size = (C - (n + m)) * sz := by rw [size_zeroCells, hzs]
    have hCs : (n + m) * sz + (C - (n + m)) * sz = C * sz := by rw [← Nat.add_mul, show n + m + (C - (n + m)) = C by omega]
    refine ⟨w.heap.size, C, _, hr, ⟨htot, .inr ⟨w.heap.size, C, rfl, hge, by simp, fun j hj => ?_, fun j hj => ?_, fun j hj => ?_⟩⟩, ?_⟩
    · rw [show (⟨w.heap.size, j, none⟩ : Addr) = ⟨w.drew.heap.size, j, none⟩ from rfl, World.cell?_alloc_new, Array.getElem?_eq_getElem (by rw [Array.size_append, hz2, List.size_toArray, htot]; omega)]; rfl
    · exact World.frozen?_alloc_at (w := w.drew) _ _ _ _ rfl
    · rw [show (⟨w.heap.size, j, none⟩ : Addr) = ⟨w.drew.heap.size, j, none⟩ from rfl, World.cell?_alloc_new, Array.getElem?_append_left (by simpa using hj)]
      rw [List.getElem?_toArray, List.getElem?_eq_getElem hj]
    · have same : ∀ k, k < w.heap.size → (w.drew.alloc (.cells ((xs ++ news).toArray ++ Builtin.zeroCells z.cells (C - (n + m))) e)).heap[k]? = w.heap[k]? := fun k hk => by
        show (w.heap.push _)[k]? = _
        rw [Array.getElem?_push, if_neg (by omega)]
      refine ⟨⟨rfl, rfl, rfl, by simp, fun k hk _ => same k hk, .inr ⟨w.heap.size, rfl, Nat.le_refl _⟩⟩, fun g hg => ?_⟩
      have hs := same g (hlt g hg)
      exact ⟨fun j _ => World.cell?_of_block (a := ⟨g, j, none⟩) hs, fun j hj => by rw [World.cell?_of_block (a := ⟨g, j, none⟩) hs]; exact hj, fun j => World.frozen?_of_block (a := ⟨g, j, none⟩) hs⟩
  rcases h.2 with ⟨hv, h00⟩ | ⟨g, cap, hv, h1, hg, h2, h3, h4⟩
  · subst h00
    have : xs = [] := List.length_eq_zero_iff.1 (by omega)
    subst this
    exact grow none 0 hv (run_firstCells_none _ _ _ _ _) (by omega) h.lt
  · by_cases hroom : n + m ≤ cap
    · subst hv
      have hcap : n * sz + news.length ≤ cap * sz := by rw [hnl, ← Nat.add_mul]; exact Nat.mul_le_mul_right _ hroom
      have hr := run_append_room_src (P := Tryd.prog) w t tx ty e i ht hi g 0 n cap x m news hs' hroom (fun j hj => by rw [hsz]; exact h2 _ (by omega)) (fun j hj => by rw [hsz]; exact h3 _ (by omega))
      rw [hsz] at hr
      simp only [Nat.zero_add] at hr
      refine ⟨g, cap, _, hr, ⟨htot, .inr ⟨g, cap, rfl, hroom, by rw [size_setCells]; exact hg, fun j hj => ?_, fun j hj => ?_, fun j hj => ?_⟩⟩, ?_⟩
      · exact World.isSome_setCells _ _ _ _ _ (h2 j hj)
      · rw [World.frozen?_setCells]; exact h3 j hj
      · have hj' : j < xs.length + news.length := by simpa using hj
        by_cases hjl : j < xs.length
        · rw [World.cell?_setCells_out _ _ _ _ _ (fun _ _ => .inl (by show j < n * sz; omega)), h4 j hjl, List.getElem_append_left hjl]
        · have := World.cell?_setCells_in g news (n * sz) w (fun k hk => h2 _ (by omega)) (j - n * sz) (by omega)
          rw [show n * sz + (j - n * sz) = j by omega] at this
          rw [this, List.getElem_append_right (by omega)]
          simp only [hxl]
      · refine ⟨⟨World.os_setCells _ _ _ _, tape_setCells _ _ _ _, World.output_setCells _ _ _ _, by rw [size_setCells]; exact Nat.le_refl _, fun k hk hne => World.heap_setCells_other _ _ _ _ hk (fun e => hne (by rw [e]; rfl)), .inl rfl⟩, fun g' hg' => ?_⟩
        cases hg'
        exact ⟨fun j hj => World.cell?_setCells_out _ _ _ _ _ (fun _ _ => .inl hj), fun j hj => World.isSome_setCells _ _ _ _ _ hj, fun j => World.frozen?_setCells _ _ _ _ _⟩
    · refine grow _ _ hv ?_ (by omega) h.lt
      exact run_firstCells_some (P := Tryd.prog) w.drew i.size n ⟨g, 0, none⟩ n cap xs (by rw [hsz]; exact hxl) (fun j u hj => by
        have hjl := (List.getElem?_eq_some_iff.1 hj).1
        rw [add_plain g j]
        show w.cell? _ = _
        rw [h4 j hjl, ← hj, List.getElem?_eq_getElem hjl])

/-- The same, as an operation of a plain region. -/
theorem wpList_append_rw {w : World} {ops : Array Oper} {rest : List Oper} {o : Oper} {a : Act} {Q : Exit → Act → World → Prop} (hgd : o.guard = none) (s x : Operand) (t tx : TypeId)
    (ho : o.op = .call { callee := .builtin .append, args := #[s, x], argTypes := #[t, tx] })
    (e : TypeId) (z : Value) (sz bytes : Nat) (ht : Tryd.prog.underlying t = some (.slice e)) (hinfo : (Tryd.prog.info? e).map (fun i => (i.zero, i.size, i.bytes)) = some (some z, sz, bytes)) (hzs : z.cells.size = sz)
    (v u : Value) (n m : Nat) (xs news : List Value) (hv : a.eval s = v) (hu : a.eval x = u) (h : Rw w sz v n xs) (hs : Src Tryd.prog sz tx u m news w) (h0 : 0 < m) (hlen : (n + m) * bytes ≤ 140737488355328) (h63 : n + m ≤ 1000000000000)
    (k : ∀ g cap w', Rw w' sz (.slice (some ⟨g, 0, none⟩) (n + m) cap) (n + m) (xs ++ news) → Gr w v w' (.slice (some ⟨g, 0, none⟩) (n + m) cap) → Pre w v n sz w' → wpList Tryd.prog ops Q rest (a.put o.dst (.slice (some ⟨g, 0, none⟩) (n + m) cap)) w') : wpList Tryd.prog ops Q (o :: rest) a w :=
  wpList_plain hgd fun K hK => by
    obtain ⟨i, hi, hz, hsz, hby⟩ := info_parts hinfo
    obtain ⟨g, cap, w', hr, h2, h3, h4⟩ := run_append_rw w t tx o.type e i z sz bytes ht hi hz hsz hby hzs v u n m xs news h hs h0 hlen h63
    unfold Oper.wp execOp
    simp only [ho, resolve, invoke, builtin, Sem.run_bind, Sem.run_pure, Result.andThen_ok, List.map_toArray, List.map_cons, List.map_nil, hv, hu, hr]
    exact hK _ _ (k g cap w' h2 h3 h4)

/-- The same, as a step of a region that draws its order. -/
theorem step_append_rw {w : World} {ops : Array Oper} {o : Oper} {a : Act} {K : Act → World → Prop} {Q : Exit → Act → World → Prop} {E : Prop} (hgd : o.guard = none) (s x : Operand) (t tx : TypeId)
    (ho : o.op = .call { callee := .builtin .append, args := #[s, x], argTypes := #[t, tx] })
    (e : TypeId) (z : Value) (sz bytes : Nat) (ht : Tryd.prog.underlying t = some (.slice e)) (hinfo : (Tryd.prog.info? e).map (fun i => (i.zero, i.size, i.bytes)) = some (some z, sz, bytes)) (hzs : z.cells.size = sz)
    (v u : Value) (n m : Nat) (xs news : List Value) (hv : a.eval s = v) (hu : a.eval x = u) (h : Rw w sz v n xs) (hs : Src Tryd.prog sz tx u m news w) (h0 : 0 < m) (hlen : (n + m) * bytes ≤ 140737488355328) (h63 : n + m ≤ 1000000000000)
    (k : ∀ g cap w', Rw w' sz (.slice (some ⟨g, 0, none⟩) (n + m) cap) (n + m) (xs ++ news) → Gr w v w' (.slice (some ⟨g, 0, none⟩) (n + m) cap) → K (a.put o.dst (.slice (some ⟨g, 0, none⟩) (n + m) cap)) w') :
    if Region.wanted o (yielded ops a.tmps) = true then Oper.wp Tryd.prog o a w K Q else E := by
  have hw : Region.wanted o (yielded ops a.tmps) = true := by simp [Region.wanted, hgd]
  rw [if_pos hw]
  obtain ⟨i, hi, hz, hsz, hby⟩ := info_parts hinfo
  obtain ⟨g, cap, w', hr, h2, h3, _⟩ := run_append_rw w t tx o.type e i z sz bytes ht hi hz hsz hby hzs v u n m xs news h hs h0 hlen h63
  unfold Oper.wp execOp
  simp only [ho, resolve, invoke, builtin, Sem.run_bind, Sem.run_pure, Result.andThen_ok, List.map_toArray, List.map_cons, List.map_nil, hv, hu, hr]
  exact k g cap w' h2 h3

/-- What is appended lies in a block that was just made. -/
theorem srcR_new (w : World) (t e : TypeId) (ht : Tryd.prog.underlying t = some (.slice e)) (C : Array Value) (sz m : Nat) (hC : C.size = m * sz) (h1 : ∀ u ∈ C.toList, u.oneCell' = true) : Src Tryd.prog sz t (.slice (some ⟨w.heap.size, 0, none⟩) m m) m C.toList (w.alloc (.cells C e)) := by
  refine Src.ofSlice (P := Tryd.prog) _ ht _ _ _ _ (by simpa using hC) (fun j u hj => ?_) h1
  rw [add_plain, World.cell?_alloc_new, ← hj]
  simp
end Go.Proofs.YtafkpmjifgohcaaDoor
