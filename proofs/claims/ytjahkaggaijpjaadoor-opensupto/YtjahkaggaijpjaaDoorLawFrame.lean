/- Frames by the blocks that may have changed, and stores into a row. -/
import Derived.Test.YtjahkaggaijpjaaDoorLawStill
namespace Go.Proofs.YtjahkaggaijpjaaDoor
open Go.RowKit

/-- Of the old blocks only those in X may have changed. -/
structure Fr (X : Nat → Prop) (w w' : World) : Prop where
  os : w'.os = w.os
  tape : w'.tape = w.tape
  output : w'.output = w.output
  size : w.heap.size ≤ w'.heap.size
  block : ∀ k, k < w.heap.size → ¬ X k → w'.heap[k]? = w.heap[k]?

theorem Fr.refl (X : Nat → Prop) (w : World) : Fr X w w := ⟨rfl, rfl, rfl, Nat.le_refl _, fun _ _ _ => rfl⟩
theorem Fr.then {X Y : Nat → Prop} {w w1 w2 : World} (h : Fr X w w1) (h2 : Fr Y w1 w2) (hY : ∀ k, k < w.heap.size → Y k → X k) : Fr X w w2 :=
  ⟨h2.os.trans h.os, h2.tape.trans h.tape, h2.output.trans h.output, Nat.le_trans h.size h2.size, fun k hk hx => by rw [h2.block k (Nat.lt_of_lt_of_le hk h.size) (fun hy => hx (hY k hk hy)), h.block k hk hx]⟩
theorem Fr.mono {X Y : Nat → Prop} {w w' : World} (h : Fr X w w') (hY : ∀ k, X k → Y k) : Fr Y w w' :=
  ⟨h.os, h.tape, h.output, h.size, fun k hk hy => h.block k hk (fun hx => hy (hY k hx))⟩
theorem Gr.fr {w w' : World} {v v' : Value} (h : Gr w v w' v') : Fr (fun k => v.ownBlock = some k) w w' :=
  ⟨h.os, h.tape, h.output, h.size, fun k hk hx => h.block k hk (fun e => hx e.symm)⟩
theorem below_fr {w w' : World} (h : Below w.heap.size w w') (X : Nat → Prop) : Fr X w w' :=
  ⟨h.os, h.tape, h.output, h.size, fun k hk _ => h.block k hk⟩
theorem Fr.below {X : Nat → Prop} {w w' : World} {B : Nat} (h : Fr X w w') (hB : B ≤ w.heap.size) (hX : ∀ k, X k → B ≤ k) : Below B w w' :=
  ⟨h.os, h.tape, h.output, h.size, fun k hk => h.block k (by omega) (fun hx => by have := hX k hx; omega)⟩
theorem fr_setCell (w : World) (a : Addr) (x : Value) : Fr (fun k => k = a.block) w (w.setCell a x) :=
  ⟨rfl, rfl, rfl, by simp, fun k _ hx => heap_setCell_ne w a x k hx⟩
theorem fr_setCells (w : World) (g o : Nat) (vs : List Value) : Fr (fun k => k = g) w (w.setCells g o vs) :=
  ⟨World.os_setCells _ _ _ _, tape_setCells _ _ _ _, World.output_setCells _ _ _ _, by rw [size_setCells]; exact Nat.le_refl _, fun k hk hx => World.heap_setCells_other _ _ _ _ hk hx⟩
theorem fr_drewN (X : Nat → Prop) (w : World) (q : Nat) : Fr X w (w.drewN q) := ⟨rfl, rfl, rfl, Nat.le_refl _, fun _ _ _ => rfl⟩

/-- A frame keeps a row whose array is not among what may have changed. -/
theorem Rw.fr {X : Nat → Prop} {w w' : World} {sz n : Nat} {v : Value} {xs : List Value} (h : Rw w sz v n xs) (hf : Fr X w w') (hx : ∀ k, v.ownBlock = some k → ¬ X k) : Rw w' sz v n xs :=
  h.kept hf.size fun k hk => hf.block k (h.lt k hk) (hx k hk)
theorem Pr.fr {X : Nat → Prop} {w w' : World} {sz : Nat} {mk : Int → List Value} {va vm : Value} {L : List Value} {M : List Int} (h : Pr w sz mk va vm L M) (hf : Fr X w w')
    (h1 : ∀ k, va.ownBlock = some k → ¬ X k) (h2 : ∀ k, vm.ownBlock = some k → ¬ X k) (h3 : ∀ v ∈ L, ∀ k, v.ownBlock = some k → ¬ X k) : Pr w' sz mk va vm L M :=
  h.kept hf.size X hf.block h1 h2 h3
theorem Lw.fr {X : Nat → Prop} {w w' : World} {b : Nat} {text : ByteArray} {vf vb vm vn vk : Value} {cnt : Nat} (h : Lw w b text vf vb vm vn vk cnt) (hf : Fr X w w') (hx : ¬ X b) : Lw w' b text vf vb vm vn vk cnt :=
  ⟨by rw [hf.block b h.lt hx]; exact h.blk⟩

/-- Stores into the struct. -/
theorem Lw.setText {w : World} {b : Nat} {text : ByteArray} {vf vb vm vn vk : Value} {cnt : Nat} (h : Lw w b text vf vb vm vn vk cnt) (t : ByteArray) : Lw (w.setCell ⟨b, 0, none⟩ (.string t)) b t vf vb vm vn vk cnt := by
  refine ⟨?_⟩
  show (w.heap.modify b _)[b]? = _
  rw [Array.getElem?_modify, if_pos rfl, h.blk]
  rfl
theorem Lw.setFiles {w : World} {b : Nat} {text : ByteArray} {vf vb vm vn vk : Value} {cnt : Nat} (h : Lw w b text vf vb vm vn vk cnt) (v : Value) : Lw (w.setCell ⟨b, 1, none⟩ v) b text v vb vm vn vk cnt := by
  refine ⟨?_⟩
  show (w.heap.modify b _)[b]? = _
  rw [Array.getElem?_modify, if_pos rfl, h.blk]
  rfl
theorem Lw.setBlocks {w : World} {b : Nat} {text : ByteArray} {vf vb vm vn vk : Value} {cnt : Nat} (h : Lw w b text vf vb vm vn vk cnt) (v : Value) : Lw (w.setCell ⟨b, 2, none⟩ v) b text vf v vm vn vk cnt := by
  refine ⟨?_⟩
  show (w.heap.modify b _)[b]? = _
  rw [Array.getElem?_modify, if_pos rfl, h.blk]
  rfl
theorem Lw.setBm {w : World} {b : Nat} {text : ByteArray} {vf vb vm vn vk : Value} {cnt : Nat} (h : Lw w b text vf vb vm vn vk cnt) (v : Value) : Lw (w.setCell ⟨b, 3, none⟩ v) b text vf vb v vn vk cnt := by
  refine ⟨?_⟩
  show (w.heap.modify b _)[b]? = _
  rw [Array.getElem?_modify, if_pos rfl, h.blk]
  rfl
theorem Lw.setNums {w : World} {b : Nat} {text : ByteArray} {vf vb vm vn vk : Value} {cnt : Nat} (h : Lw w b text vf vb vm vn vk cnt) (v : Value) : Lw (w.setCell ⟨b, 4, none⟩ v) b text vf vb vm v vk cnt := by
  refine ⟨?_⟩
  show (w.heap.modify b _)[b]? = _
  rw [Array.getElem?_modify, if_pos rfl, h.blk]
  rfl
theorem Lw.setNm {w : World} {b : Nat} {text : ByteArray} {vf vb vm vn vk : Value} {cnt : Nat} (h : Lw w b text vf vb vm vn vk cnt) (v : Value) : Lw (w.setCell ⟨b, 5, none⟩ v) b text vf vb vm vn v cnt := by
  refine ⟨?_⟩
  show (w.heap.modify b _)[b]? = _
  rw [Array.getElem?_modify, if_pos rfl, h.blk]
  rfl
theorem Lw.setCount {w : World} {b : Nat} {text : ByteArray} {vf vb vm vn vk : Value} {cnt : Nat} (h : Lw w b text vf vb vm vn vk cnt) (c : Nat) (i : Int) (hi : i = c) : Lw (w.setCell ⟨b, 6, none⟩ (.int .i64 i)) b text vf vb vm vn vk c := by
  subst hi
  refine ⟨?_⟩
  show (w.heap.modify b _)[b]? = _
  rw [Array.getElem?_modify, if_pos rfl, h.blk]
  rfl

/-- One element more is written over, from the row's beginning on. -/
theorem Rw.mark {w : World} {sz n g cap k : Nat} {X ys : List Value} (hX : X.length = sz) (h : Rw w sz (.slice (some ⟨g, 0, none⟩) n cap) n (rep k X ++ ys)) (hk : k < n) :
    Rw (w.setCells g (k * sz) X) sz (.slice (some ⟨g, 0, none⟩) n cap) n (rep (k + 1) X ++ ys.drop sz) := by
  have hl := h.1
  rw [List.length_append, rep_length, hX] at hl
  have hm : (k + 1) * sz ≤ n * sz := Nat.mul_le_mul_right _ hk
  rw [Nat.succ_mul] at hm
  have hc := h.cell
  rcases h.2 with ⟨e, _⟩ | ⟨g', cap', e, h1, hg, h2, h3, h4⟩
  · cases e
  · cases e
    have hcap : n * sz ≤ cap * sz := Nat.mul_le_mul_right _ h1
    refine ⟨?_, .inr ⟨g, cap, rfl, h1, by rw [size_setCells]; exact hg, fun j hj => World.isSome_setCells _ _ _ _ _ (h2 j hj), fun j hj => by rw [World.frozen?_setCells]; exact h3 j hj, fun j hj => ?_⟩⟩
    · rw [List.length_append, rep_length, hX, List.length_drop, Nat.succ_mul]; omega
    · have hj' : j < n * sz := by rw [List.length_append, rep_length, hX, List.length_drop, Nat.succ_mul] at hj; omega
      by_cases c1 : j < k * sz
      · rw [World.cell?_setCells_out _ _ _ _ _ (fun _ _ => .inl c1), hc j (by rw [List.length_append, rep_length, hX]; omega)]
        congr 1
        rw [List.getElem_append_left (by rw [rep_length, hX]; exact c1), List.getElem_append_left (by rw [rep_length, hX, Nat.succ_mul]; omega)]
        simp only [rep_succ]
        rw [List.getElem_append_left (by rw [rep_length, hX]; exact c1)]
      · by_cases c2 : j < k * sz + sz
        · have := World.cell?_setCells_in g X (k * sz) w (fun i hi => h2 _ (by omega)) (j - k * sz) (by omega)
          rw [show k * sz + (j - k * sz) = j by omega] at this
          rw [this]
          congr 1
          rw [List.getElem_append_left (by rw [rep_length, hX, Nat.succ_mul]; omega)]
          simp only [rep_succ]
          rw [List.getElem_append_right (by rw [rep_length, hX]; omega)]
          simp only [rep_length, hX]
        · rw [World.cell?_setCells_out _ _ _ _ _ (fun _ _ => .inr (by rw [hX]; show k * sz + sz ≤ j; omega)), hc j (by rw [List.length_append, rep_length, hX]; omega)]
          congr 1
          rw [List.getElem_append_right (by rw [rep_length, hX]; omega), List.getElem_append_right (by rw [rep_length, hX, Nat.succ_mul]; omega)]
          rw [List.getElem_drop]
          simp only [rep_length, hX, Nat.succ_mul]
          congr 1
          omega
end Go.Proofs.YtjahkaggaijpjaaDoor
