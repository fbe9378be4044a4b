/- The law's whole world: its struct, the files that were opened, the lists that came out; all apart, told by a colour for each block. -/
import Derived.Test.YtafkpmjifgohcaaGreatDoorAlluptoPart8
import Derived.Test.YtafkpmjifgohcaaGreatDoorAlluptoPart11
import Derived.Test.YtafkpmjifgohcaaGreatDoorAlluptoPart13
import Derived.Test.YtafkpmjifgohcaaGreatDoorAlluptoPart4
namespace Go.Proofs.YtafkpmjifgohcaaGreatDoor
open Go.RowKit

/-- A file that was opened: where the program's and the document's lie, and its bytes. -/
structure FE where
  g : Nat
  v : Value
  h : Nat
  u : Value
  s : ByteArray

def FE.bs (f : FE) : List Sk.Blk := (Sk.openR f.s.data.toList).2.1
def FE.d (f : FE) : Nat := (Sk.openR f.s.data.toList).2.2
def FE.cells (f : FE) : List Value := [.pointer (some ⟨f.g, 0, none⟩), .pointer (some ⟨f.h, 0, none⟩)]
def FE.own (f : FE) (k : Nat) : Prop := k = f.g ∨ k = f.h ∨ f.v.ownBlock = some k ∨ f.u.ownBlock = some k

structure FE.Ok (f : FE) (w : World) : Prop where
  p : PFile w 0 f.g f.s f.v f.bs f.d
  r : RFile w 0 f.h f.s f.u f.bs f.d
  z : f.s.size ≤ 65536

theorem FE.Ok.lt {f : FE} {w : World} (h : f.Ok w) (k : Nat) (hk : f.own k) : k < w.heap.size := by
  rcases hk with rfl | rfl | hk | hk
  · exact h.p.lt
  · exact h.r.lt
  · exact h.p.row.lt k hk
  · exact h.r.row.lt k hk

theorem FE.Ok.fr {f : FE} {X : Nat → Prop} {w w' : World} (h : f.Ok w) (hf : Fr X w w') (hx : ∀ k, f.own k → ¬ X k) : f.Ok w' := by
  have e : ∀ k, f.own k → w'.heap[k]? = w.heap[k]? := fun k hk => hf.block k (h.lt k hk) (hx k hk)
  refine ⟨h.p.kept hf.size (e _ (.inl rfl)) (fun k hk => e k (.inr (.inr (.inl hk)))), ⟨?_, Nat.zero_le _, h.r.row.kept hf.size (fun k hk => e k (.inr (.inr (.inr hk)))), h.r.rowLow⟩, h.z⟩
  rw [e _ (.inr (.inl rfl))]
  exact h.r.blk

structure Wk (w : World) (B b : Nat) (κ : Nat → Nat) (text : ByteArray) (vf vb vm vn vk : Value) (cnt : Nat) (F : List FE) (Lb : List Value) (Mb : List Int) (Ln : List Value) (Mn : List Int) : Prop where
  lw : Lw w b text vf vb vm vn vk cnt
  rf : Rw w 2 vf F.length (F.flatMap FE.cells)
  pb : Pr w 4 mk4 vb vm Lb Mb
  pn : Pr w 1 mk1 vn vk Ln Mn
  fo : ∀ f ∈ F, f.Ok w
  kb : κ b = 0 ∧ B ≤ b
  k1 : ∀ k, vf.ownBlock = some k → κ k = 1 ∧ B ≤ k
  k2 : ∀ k, vb.ownBlock = some k → κ k = 2 ∧ B ≤ k
  k3 : ∀ k, vm.ownBlock = some k → κ k = 3 ∧ B ≤ k
  k4 : ∀ k, vn.ownBlock = some k → κ k = 4 ∧ B ≤ k
  k5 : ∀ k, vk.ownBlock = some k → κ k = 5 ∧ B ≤ k
  k6 : ∀ v ∈ Lb, ∀ k, v.ownBlock = some k → κ k = 6
  k7 : ∀ v ∈ Ln, ∀ k, v.ownBlock = some k → κ k = 6
  k8 : ∀ f ∈ F, ∀ k, f.own k → κ k = 7
  sz : ∀ v ∈ Lb ++ Ln, ∀ a n c, v = .slice a n c → n ≤ 1000000
  cb : Lb.length ≤ 4 * cnt ∧ Ln.length ≤ 4 * cnt
  tx : text.size ≤ 65536
  fl : F.length ≤ 12

theorem Pr.entlt {w : World} {sz : Nat} {mk : Int → List Value} {va vm : Value} {L : List Value} {M : List Int} (h : Pr w sz mk va vm L M) : ∀ v ∈ L, ∀ k, v.ownBlock = some k → k < w.heap.size := fun v hv k hk => by
  obtain ⟨i, hi, rfl⟩ := List.getElem_of_mem hv
  obtain ⟨n', hn⟩ := h.ent i hi (by have := h.len; omega)
  exact hn.lt k hk

section
variable {w w' : World} {B b : Nat} {κ κ' : Nat → Nat} {text : ByteArray} {vf vb vm vn vk : Value} {cnt : Nat} {F : List FE} {Lb : List Value} {Mb : List Int} {Ln : List Value} {Mn : List Int}

/-- The colours of blocks that are not there yet do not matter. -/
theorem Wk.recol (h : Wk w B b κ text vf vb vm vn vk cnt F Lb Mb Ln Mn) (e : ∀ k, k < w.heap.size → κ' k = κ k) : Wk w B b κ' text vf vb vm vn vk cnt F Lb Mb Ln Mn :=
  { h with
    kb := ⟨by rw [e b h.lw.lt]; exact h.kb.1, h.kb.2⟩
    k1 := fun k hk => by rw [e k (h.rf.lt k hk)]; exact h.k1 k hk
    k2 := fun k hk => by rw [e k (h.pb.ra.lt k hk)]; exact h.k2 k hk
    k3 := fun k hk => by rw [e k (h.pb.rm.lt k hk)]; exact h.k3 k hk
    k4 := fun k hk => by rw [e k (h.pn.ra.lt k hk)]; exact h.k4 k hk
    k5 := fun k hk => by rw [e k (h.pn.rm.lt k hk)]; exact h.k5 k hk
    k6 := fun v hv k hk => by rw [e k (h.pb.entlt v hv k hk)]; exact h.k6 v hv k hk
    k7 := fun v hv k hk => by rw [e k (h.pn.entlt v hv k hk)]; exact h.k7 v hv k hk
    k8 := fun f hf k hk => by rw [e k ((h.fo f hf).lt k hk)]; exact h.k8 f hf k hk }

theorem Wk.low (h : Wk w B b κ text vf vb vm vn vk cnt F Lb Mb Ln Mn) : B ≤ w.heap.size := Nat.le_of_lt (Nat.lt_of_le_of_lt h.kb.2 h.lw.lt)

/-- Nothing of its own has changed. -/
theorem Wk.fr {X : Nat → Prop} (h : Wk w B b κ text vf vb vm vn vk cnt F Lb Mb Ln Mn) (hf : Fr X w w') (hX : ∀ k, X k → 8 ≤ κ k) : Wk w' B b κ text vf vb vm vn vk cnt F Lb Mb Ln Mn :=
  have no : ∀ k c, κ k = c → c < 8 → ¬ X k := fun k c h1 h2 h3 => by have := hX k h3; omega
  { h with
    lw := h.lw.fr hf (no b 0 h.kb.1 (by decide))
    rf := h.rf.fr hf (fun k hk => no k 1 (h.k1 k hk).1 (by decide))
    pb := h.pb.fr hf (fun k hk => no k 2 (h.k2 k hk).1 (by decide)) (fun k hk => no k 3 (h.k3 k hk).1 (by decide)) (fun v hv k hk => no k 6 (h.k6 v hv k hk) (by decide))
    pn := h.pn.fr hf (fun k hk => no k 4 (h.k4 k hk).1 (by decide)) (fun k hk => no k 5 (h.k5 k hk).1 (by decide)) (fun v hv k hk => no k 6 (h.k7 v hv k hk) (by decide))
    fo := fun f hm => (h.fo f hm).fr hf (fun k hk => no k 7 (h.k8 f hm k hk) (by decide)) }

theorem Wk.below (h : Wk w B b κ text vf vb vm vn vk cnt F Lb Mb Ln Mn) (hb : Below w.heap.size w w') : Wk w' B b κ text vf vb vm vn vk cnt F Lb Mb Ln Mn :=
  h.fr (below_fr hb (fun _ => False)) (fun _ h => h.elim)

/-- Another text. -/
theorem Wk.setText (h : Wk w B b κ text vf vb vm vn vk cnt F Lb Mb Ln Mn) (t : ByteArray) (ht : t.size ≤ 65536) : Wk (w.setCell ⟨b, 0, none⟩ (.string t)) B b κ t vf vb vm vn vk cnt F Lb Mb Ln Mn :=
  have hf := fr_setCell w ⟨b, 0, none⟩ (.string t)
  have no : ∀ k c, κ k = c → 0 < c → ¬ (k = b) := fun k c h1 h2 h3 => by rw [h3, h.kb.1] at h1; omega
  { h with
    lw := h.lw.setText t
    rf := h.rf.fr hf (fun k hk => no k 1 (h.k1 k hk).1 (by decide))
    pb := h.pb.fr hf (fun k hk => no k 2 (h.k2 k hk).1 (by decide)) (fun k hk => no k 3 (h.k3 k hk).1 (by decide)) (fun v hv k hk => no k 6 (h.k6 v hv k hk) (by decide))
    pn := h.pn.fr hf (fun k hk => no k 4 (h.k4 k hk).1 (by decide)) (fun k hk => no k 5 (h.k5 k hk).1 (by decide)) (fun v hv k hk => no k 6 (h.k7 v hv k hk) (by decide))
    fo := fun f hm => (h.fo f hm).fr hf (fun k hk => no k 7 (h.k8 f hm k hk) (by decide))
    tx := ht }

/-- What lists asks of a new list. -/
theorem Wk.apart (h : Wk w B b κ text vf vb vm vn vk cnt F Lb Mb Ln Mn) {l : Value} (hl : ∀ k, l.ownBlock = some k → κ k = 8) :
    (vb.ownBlock ≠ some b ∧ vm.ownBlock ≠ some b ∧ l.ownBlock ≠ some b) ∧ (∀ k, vb.ownBlock = some k → vm.ownBlock ≠ some k ∧ l.ownBlock ≠ some k) ∧ (∀ k, vm.ownBlock = some k → l.ownBlock ≠ some k) ∧
    (∀ v ∈ Lb, ∀ k, v.ownBlock = some k → k ≠ b ∧ vb.ownBlock ≠ some k ∧ vm.ownBlock ≠ some k ∧ l.ownBlock ≠ some k) := by
  have c0 := h.kb.1
  refine ⟨⟨fun e => ?_, fun e => ?_, fun e => ?_⟩, fun k hk => ⟨fun e => ?_, fun e => ?_⟩, fun k hk e => ?_, fun v hv k hk => ⟨fun e => ?_, fun e => ?_, fun e => ?_, fun e => ?_⟩⟩
  · have := (h.k2 _ e).1; omega
  · have := (h.k3 _ e).1; omega
  · have := hl _ e; omega
  · have := (h.k2 _ hk).1; have := (h.k3 _ e).1; omega
  · have := (h.k2 _ hk).1; have := hl _ e; omega
  · have := (h.k3 _ hk).1; have := hl _ e; omega
  · have := h.k6 v hv k hk; rw [e] at this; omega
  · have := h.k6 v hv k hk; have := (h.k2 _ e).1; omega
  · have := h.k6 v hv k hk; have := (h.k3 _ e).1; omega
  · have := h.k6 v hv k hk; have := hl _ e; omega

theorem Wk.apartN (h : Wk w B b κ text vf vb vm vn vk cnt F Lb Mb Ln Mn) {l : Value} (hl : ∀ k, l.ownBlock = some k → κ k = 8) :
    (vn.ownBlock ≠ some b ∧ vk.ownBlock ≠ some b ∧ l.ownBlock ≠ some b) ∧ (∀ k, vn.ownBlock = some k → vk.ownBlock ≠ some k ∧ l.ownBlock ≠ some k) ∧ (∀ k, vk.ownBlock = some k → l.ownBlock ≠ some k) ∧
    (∀ v ∈ Ln, ∀ k, v.ownBlock = some k → k ≠ b ∧ vn.ownBlock ≠ some k ∧ vk.ownBlock ≠ some k ∧ l.ownBlock ≠ some k) := by
  have c0 := h.kb.1
  refine ⟨⟨fun e => ?_, fun e => ?_, fun e => ?_⟩, fun k hk => ⟨fun e => ?_, fun e => ?_⟩, fun k hk e => ?_, fun v hv k hk => ⟨fun e => ?_, fun e => ?_, fun e => ?_, fun e => ?_⟩⟩
  · have := (h.k4 _ e).1; omega
  · have := (h.k5 _ e).1; omega
  · have := hl _ e; omega
  · have := (h.k4 _ hk).1; have := (h.k5 _ e).1; omega
  · have := (h.k4 _ hk).1; have := hl _ e; omega
  · have := (h.k5 _ hk).1; have := hl _ e; omega
  · have := h.k7 v hv k hk; rw [e] at this; omega
  · have := h.k7 v hv k hk; have := (h.k4 _ e).1; omega
  · have := h.k7 v hv k hk; have := (h.k5 _ e).1; omega
  · have := h.k7 v hv k hk; have := hl _ e; omega

/-- A list of blocks has come out. -/
theorem Wk.lists (h : Wk w B b κ text vf vb vm vn vk cnt F Lb Mb Ln Mn) {l : Value} (hl : ∀ k, l.ownBlock = some k → κ k = 8) (hlB : ∀ k, l.ownBlock = some k → B ≤ k) {n bx nn : Nat} {C : Obj} {lc vb' vm' : Value} {L' : List Value} {M' : List Int} {m : Int} (hn : n ≤ 100000)
    (hj : LJ 4 mk4 m w b vb vm l (fun w1 a c => Lw w1 b text vf a c vn vk (cnt + 1)) bx C w' nn lc vb' vm' (Lb ++ L') (Mb ++ M')) (h4 : L'.length = 4)
    (hv : ∀ v ∈ L', (∀ k, v.ownBlock = some k → l.ownBlock = some k ∨ w.heap.size ≤ k) ∧ ∀ a k c, v = .slice a k c → k ≤ n + 65) :
    ∃ κ', Wk w' B b κ' text vf vb' vm' vn vk (cnt + 1) F (Lb ++ L') (Mb ++ M') Ln Mn ∧ Below B w w' ∧ (∀ k, k < w.heap.size → κ k = 8 → l.ownBlock ≠ some k → κ' k = 8 ∧ w'.heap[k]? = w.heap[k]?) := by
  have c0 := h.kb.1
  have hB := h.low
  have hf := hj.fr
  have cls : ∀ k, (k = b ∨ vb.ownBlock = some k ∨ vm.ownBlock = some k ∨ l.ownBlock = some k) → κ k = 0 ∨ κ k = 2 ∨ κ k = 3 ∨ κ k = 8 := by
    rintro k (rfl | e | e | e)
    · exact .inl c0
    · exact .inr (.inl (h.k2 _ e).1)
    · exact .inr (.inr (.inl (h.k3 _ e).1))
    · exact .inr (.inr (.inr (hl _ e)))
  have nX : ∀ k c, κ k = c → c = 1 ∨ c = 4 ∨ c = 5 ∨ c = 6 ∨ c = 7 → ¬ (k = b ∨ vb.ownBlock = some k ∨ vm.ownBlock = some k ∨ l.ownBlock = some k) := fun k c h1 h2 h3 => by have := cls k h3; omega
  let κ' : Nat → Nat := fun k => if vb'.ownBlock = some k then 2 else if vm'.ownBlock = some k then 3 else if k < w.heap.size ∧ l.ownBlock ≠ some k then κ k else 6
  have hold : ∀ k, k < w.heap.size → κ k ≠ 2 → κ k ≠ 3 → l.ownBlock ≠ some k → κ' k = κ k := fun k hk h2 h3 h8 => by
    show (if vb'.ownBlock = some k then 2 else if vm'.ownBlock = some k then 3 else if k < w.heap.size ∧ l.ownBlock ≠ some k then κ k else 6) = κ k
    rw [if_neg (fun e => by rcases hj.o1 k e with e | e; exact h2 (h.k2 k e).1; omega), if_neg (fun e => by rcases hj.o2 k e with e | e; exact h3 (h.k3 k e).1; omega), if_pos ⟨hk, h8⟩]
  have hold8 : ∀ k, k < w.heap.size → κ k ≠ 2 → κ k ≠ 3 → κ k ≠ 8 → κ' k = κ k := fun k hk h2 h3 h8 => hold k hk h2 h3 (fun e => h8 (hl k e))
  refine ⟨κ', { lw := hj.lw, rf := h.rf.fr hf (fun k hk => nX k 1 (h.k1 k hk).1 (by omega)), pb := hj.pr, pn := h.pn.fr hf (fun k hk => nX k 4 (h.k4 k hk).1 (by omega)) (fun k hk => nX k 5 (h.k5 k hk).1 (by omega)) (fun v hv k hk => nX k 6 (h.k7 v hv k hk) (by omega)), fo := fun f hm => (h.fo f hm).fr hf (fun k hk => nX k 7 (h.k8 f hm k hk) (by omega)), kb := ?_, k1 := fun k hk => ?_, k2 := fun k hk => ?_, k3 := fun k hk => ?_, k4 := fun k hk => ?_, k5 := fun k hk => ?_, k6 := fun v hv' k hk => ?_, k7 := fun v hv' k hk => ?_, k8 := fun f hm k hk => ?_, sz := ?_, cb := ?_, tx := h.tx, fl := h.fl }, ?_, fun k hk h8 hne => ⟨?_, hf.block k hk (fun e => ?_)⟩⟩
  · exact ⟨by rw [hold8 b h.lw.lt (by omega) (by omega) (by omega)]; exact c0, h.kb.2⟩
  · have c := (h.k1 k hk).1; exact ⟨by rw [hold8 k (h.rf.lt k hk) (by omega) (by omega) (by omega)]; exact c, (h.k1 k hk).2⟩
  · refine ⟨if_pos hk, ?_⟩
    rcases hj.o1 k hk with e | e
    · exact (h.k2 k e).2
    · omega
  · refine ⟨?_, ?_⟩
    · show (if vb'.ownBlock = some k then 2 else if vm'.ownBlock = some k then 3 else _) = 3
      rw [if_neg (fun e => (hj.a2 k e).1 hk), if_pos hk]
    · rcases hj.o2 k hk with e | e
      · exact (h.k3 k e).2
      · omega
  · have c := (h.k4 k hk).1; exact ⟨by rw [hold8 k (h.pn.ra.lt k hk) (by omega) (by omega) (by omega)]; exact c, (h.k4 k hk).2⟩
  · have c := (h.k5 k hk).1; exact ⟨by rw [hold8 k (h.pn.rm.lt k hk) (by omega) (by omega) (by omega)]; exact c, (h.k5 k hk).2⟩
  · rcases List.mem_append.1 hv' with hm | hm
    · have c := h.k6 v hm k hk
      rw [hold8 k (h.pb.entlt v hm k hk) (by omega) (by omega) (by omega)]; exact c
    · have a5 := hj.a5 v hv' k hk
      show (if vb'.ownBlock = some k then 2 else if vm'.ownBlock = some k then 3 else if k < w.heap.size ∧ l.ownBlock ≠ some k then κ k else 6) = 6
      rw [if_neg a5.2.1, if_neg a5.2.2.1, if_neg]
      rintro ⟨h1, h2⟩
      rcases (hv v hm).1 k hk with e | e
      · exact h2 e
      · omega
  · have c := h.k7 v hv' k hk
    rw [hold8 k (h.pn.entlt v hv' k hk) (by omega) (by omega) (by omega)]; exact c
  · have c := h.k8 f hm k hk
    rw [hold8 k ((h.fo f hm).lt k hk) (by omega) (by omega) (by omega)]; exact c
  · intro v hv' a n' c e
    rcases List.mem_append.1 hv' with hm | hm
    · rcases List.mem_append.1 hm with hm | hm
      · exact h.sz v (List.mem_append.2 (.inl hm)) a n' c e
      · have := (hv v hm).2 a n' c e; omega
    · exact h.sz v (List.mem_append.2 (.inr hm)) a n' c e
  · have := h.cb
    rw [List.length_append]
    omega
  · refine hf.below hB (fun k hk => ?_)
    rcases hk with rfl | e | e | e
    · exact h.kb.2
    · exact (h.k2 k e).2
    · exact (h.k3 k e).2
    · exact hlB k e
  · rw [hold k hk (by omega) (by omega) hne]; exact h8
  · rcases e with rfl | e | e | e
    · omega
    · have := (h.k2 k e).1; omega
    · have := (h.k3 k e).1; omega
    · exact hne e
/-- A list of numbers has come out. -/
theorem Wk.ints (h : Wk w B b κ text vf vb vm vn vk cnt F Lb Mb Ln Mn) {l : Value} (hl : ∀ k, l.ownBlock = some k → κ k = 8) (hlB : ∀ k, l.ownBlock = some k → B ≤ k) {n nn : Nat} {lc vn' vk' : Value} {L' : List Value} {M' : List Int} {m : Int} (hn : n ≤ 100000)
    (hj : LI 1 mk1 m w b vn vk l (fun w1 a c => Lw w1 b text vf vb vm a c (cnt + 1)) w' nn lc vn' vk' (Ln ++ L') (Mn ++ M')) (h4 : L'.length = 4)
    (hv : ∀ v ∈ L', (∀ k, v.ownBlock = some k → l.ownBlock = some k ∨ w.heap.size ≤ k) ∧ ∀ a k c, v = .slice a k c → k ≤ n + 65) :
    ∃ κ', Wk w' B b κ' text vf vb vm vn' vk' (cnt + 1) F Lb Mb (Ln ++ L') (Mn ++ M') ∧ Below B w w' ∧ (∀ k, k < w.heap.size → κ k = 8 → l.ownBlock ≠ some k → κ' k = 8 ∧ w'.heap[k]? = w.heap[k]?) := by
  have c0 := h.kb.1
  have hB := h.low
  have hf := hj.fr
  have cls : ∀ k, (k = b ∨ vn.ownBlock = some k ∨ vk.ownBlock = some k ∨ l.ownBlock = some k) → κ k = 0 ∨ κ k = 4 ∨ κ k = 5 ∨ κ k = 8 := by
    rintro k (rfl | e | e | e)
    · exact .inl c0
    · exact .inr (.inl (h.k4 _ e).1)
    · exact .inr (.inr (.inl (h.k5 _ e).1))
    · exact .inr (.inr (.inr (hl _ e)))
  have nX : ∀ k c, κ k = c → c = 1 ∨ c = 2 ∨ c = 3 ∨ c = 6 ∨ c = 7 → ¬ (k = b ∨ vn.ownBlock = some k ∨ vk.ownBlock = some k ∨ l.ownBlock = some k) := fun k c h1 h2 h3 => by have := cls k h3; omega
  let κ' : Nat → Nat := fun k => if vn'.ownBlock = some k then 4 else if vk'.ownBlock = some k then 5 else if k < w.heap.size ∧ l.ownBlock ≠ some k then κ k else 6
  have hold : ∀ k, k < w.heap.size → κ k ≠ 4 → κ k ≠ 5 → l.ownBlock ≠ some k → κ' k = κ k := fun k hk h2 h3 h8 => by
    show (if vn'.ownBlock = some k then 4 else if vk'.ownBlock = some k then 5 else if k < w.heap.size ∧ l.ownBlock ≠ some k then κ k else 6) = κ k
    rw [if_neg (fun e => by rcases hj.o1 k e with e | e; exact h2 (h.k4 k e).1; omega), if_neg (fun e => by rcases hj.o2 k e with e | e; exact h3 (h.k5 k e).1; omega), if_pos ⟨hk, h8⟩]
  have hold8 : ∀ k, k < w.heap.size → κ k ≠ 4 → κ k ≠ 5 → κ k ≠ 8 → κ' k = κ k := fun k hk h2 h3 h8 => hold k hk h2 h3 (fun e => h8 (hl k e))
  refine ⟨κ', { lw := hj.lw, rf := h.rf.fr hf (fun k hk => nX k 1 (h.k1 k hk).1 (by omega)), pn := hj.pr, pb := h.pb.fr hf (fun k hk => nX k 2 (h.k2 k hk).1 (by omega)) (fun k hk => nX k 3 (h.k3 k hk).1 (by omega)) (fun v hv k hk => nX k 6 (h.k6 v hv k hk) (by omega)), fo := fun f hm => (h.fo f hm).fr hf (fun k hk => nX k 7 (h.k8 f hm k hk) (by omega)), kb := ?_, k1 := fun k hk => ?_, k4 := fun k hk => ?_, k5 := fun k hk => ?_, k2 := fun k hk => ?_, k3 := fun k hk => ?_, k7 := fun v hv' k hk => ?_, k6 := fun v hv' k hk => ?_, k8 := fun f hm k hk => ?_, sz := ?_, cb := ?_, tx := h.tx, fl := h.fl }, ?_, fun k hk h8 hne => ⟨?_, hf.block k hk (fun e => ?_)⟩⟩
  · exact ⟨by rw [hold8 b h.lw.lt (by omega) (by omega) (by omega)]; exact c0, h.kb.2⟩
  · have c := (h.k1 k hk).1; exact ⟨by rw [hold8 k (h.rf.lt k hk) (by omega) (by omega) (by omega)]; exact c, (h.k1 k hk).2⟩
  · have c := (h.k2 k hk).1; exact ⟨by rw [hold8 k (h.pb.ra.lt k hk) (by omega) (by omega) (by omega)]; exact c, (h.k2 k hk).2⟩
  · have c := (h.k3 k hk).1; exact ⟨by rw [hold8 k (h.pb.rm.lt k hk) (by omega) (by omega) (by omega)]; exact c, (h.k3 k hk).2⟩
  · refine ⟨if_pos hk, ?_⟩
    rcases hj.o1 k hk with e | e
    · exact (h.k4 k e).2
    · omega
  · refine ⟨?_, ?_⟩
    · show (if vn'.ownBlock = some k then 4 else if vk'.ownBlock = some k then 5 else _) = 5
      rw [if_neg (fun e => (hj.a2 k e).1 hk), if_pos hk]
    · rcases hj.o2 k hk with e | e
      · exact (h.k5 k e).2
      · omega
  · have c := h.k6 v hv' k hk
    rw [hold8 k (h.pb.entlt v hv' k hk) (by omega) (by omega) (by omega)]; exact c
  · rcases List.mem_append.1 hv' with hm | hm
    · have c := h.k7 v hm k hk
      rw [hold8 k (h.pn.entlt v hm k hk) (by omega) (by omega) (by omega)]; exact c
    · have a5 := hj.a5 v hv' k hk
      show (if vn'.ownBlock = some k then 4 else if vk'.ownBlock = some k then 5 else if k < w.heap.size ∧ l.ownBlock ≠ some k then κ k else 6) = 6
      rw [if_neg a5.2.1, if_neg a5.2.2.1, if_neg]
      rintro ⟨h1, h2⟩
      rcases (hv v hm).1 k hk with e | e
      · exact h2 e
      · omega
  · have c := h.k8 f hm k hk
    rw [hold8 k ((h.fo f hm).lt k hk) (by omega) (by omega) (by omega)]; exact c
  · intro v hv' a n' c e
    rcases List.mem_append.1 hv' with hm | hm
    · exact h.sz v (List.mem_append.2 (.inl hm)) a n' c e
    · rcases List.mem_append.1 hm with hm | hm
      · exact h.sz v (List.mem_append.2 (.inr hm)) a n' c e
      · have := (hv v hm).2 a n' c e; omega
  · have := h.cb
    rw [List.length_append]
    omega
  · refine hf.below hB (fun k hk => ?_)
    rcases hk with rfl | e | e | e
    · exact h.kb.2
    · exact (h.k4 k e).2
    · exact (h.k5 k e).2
    · exact hlB k e
  · rw [hold k hk (by omega) (by omega) hne]; exact h8
  · rcases e with rfl | e | e | e
    · omega
    · have := (h.k4 k e).1; omega
    · have := (h.k5 k e).1; omega
    · exact hne e

/-- One file more. -/
theorem Wk.addFile (h : Wk w B b κ text vf vb vm vn vk cnt F Lb Mb Ln Mn) (f : FE) (hok : f.Ok w) (h7 : ∀ k, f.own k → κ k = 7) (hlen : F.length < 12) {w1 : World} {vf' : Value} (hr : Rw w1 2 vf' (F.length + 1) (F.flatMap FE.cells ++ f.cells)) (hg : Gr w vf w1 vf') :
    ∃ κ', Wk (w1.setCell ⟨b, 1, none⟩ vf') B b κ' text vf' vb vm vn vk cnt (F ++ [f]) Lb Mb Ln Mn ∧ Below B w (w1.setCell ⟨b, 1, none⟩ vf') := by
  have c0 := h.kb.1
  have hB := h.low
  have own : ∀ k, vf'.ownBlock = some k → vf.ownBlock = some k ∨ w.heap.size ≤ k := fun k hk => by
    rcases hg.own with ho | ⟨g, ho, hgs⟩
    · exact .inl (ho.symm.trans hk)
    · rw [ho] at hk; cases hk; exact .inr hgs
  have hf : Fr (fun k => k = b ∨ vf.ownBlock = some k) w (w1.setCell ⟨b, 1, none⟩ vf') := (hg.fr.mono (fun k e => .inr e)).then (fr_setCell w1 ⟨b, 1, none⟩ vf') (fun k _ e => .inl e)
  have nX : ∀ k, 1 < κ k → ¬ (k = b ∨ vf.ownBlock = some k) := by
    rintro k h2 (rfl | e)
    · omega
    · have := (h.k1 k e).1; omega
  have lw1 : Lw w1 b text vf vb vm vn vk cnt := h.lw.fr hg.fr (fun e => by have := (h.k1 _ e).1; omega)
  let κ' : Nat → Nat := fun k => if vf'.ownBlock = some k then 1 else κ k
  have hold : ∀ k, k < w.heap.size → κ k ≠ 1 → κ' k = κ k := fun k hk h2 => if_neg (fun e => by rcases own k e with e | e; exact h2 (h.k1 k e).1; omega)
  refine ⟨κ', { lw := lw1.setFiles vf', rf := ?_, pb := h.pb.fr hf (fun k hk => nX k (by have := (h.k2 k hk).1; omega)) (fun k hk => nX k (by have := (h.k3 k hk).1; omega)) (fun v hv k hk => nX k (by have := h.k6 v hv k hk; omega)), pn := h.pn.fr hf (fun k hk => nX k (by have := (h.k4 k hk).1; omega)) (fun k hk => nX k (by have := (h.k5 k hk).1; omega)) (fun v hv k hk => nX k (by have := h.k7 v hv k hk; omega)), fo := fun f' hm => ?_, kb := ?_, k1 := fun k hk => ?_, k2 := fun k hk => ?_, k3 := fun k hk => ?_, k4 := fun k hk => ?_, k5 := fun k hk => ?_, k6 := fun v hv' k hk => ?_, k7 := fun v hv' k hk => ?_, k8 := fun f' hm k hk => ?_, sz := h.sz, cb := h.cb, tx := h.tx, fl := by rw [List.length_append]; exact hlen }, ?_⟩
  · rw [List.length_append, List.flatMap_append, List.flatMap_singleton]
    refine hr.fr (fr_setCell w1 ⟨b, 1, none⟩ vf') (fun k hk e => ?_)
    have e' : k = b := e
    rw [e'] at hk
    rcases own b hk with e2 | e2
    · have := (h.k1 _ e2).1; omega
    · have := h.lw.lt; omega
  · rcases List.mem_append.1 hm with hm | hm
    · exact (h.fo f' hm).fr hf (fun k hk => nX k (by have := h.k8 f' hm k hk; omega))
    · obtain rfl := List.mem_singleton.1 hm
      exact hok.fr hf (fun k hk => nX k (by have := h7 k hk; omega))
  · exact ⟨by rw [hold b h.lw.lt (by omega)]; exact c0, h.kb.2⟩
  · refine ⟨if_pos hk, ?_⟩
    rcases own k hk with e | e
    · exact (h.k1 k e).2
    · omega
  · have c := h.k2 k hk; exact ⟨by rw [hold k (h.pb.ra.lt k hk) (by omega)]; exact c.1, c.2⟩
  · have c := h.k3 k hk; exact ⟨by rw [hold k (h.pb.rm.lt k hk) (by omega)]; exact c.1, c.2⟩
  · have c := h.k4 k hk; exact ⟨by rw [hold k (h.pn.ra.lt k hk) (by omega)]; exact c.1, c.2⟩
  · have c := h.k5 k hk; exact ⟨by rw [hold k (h.pn.rm.lt k hk) (by omega)]; exact c.1, c.2⟩
  · have c := h.k6 v hv' k hk; rw [hold k (h.pb.entlt v hv' k hk) (by omega)]; exact c
  · have c := h.k7 v hv' k hk; rw [hold k (h.pn.entlt v hv' k hk) (by omega)]; exact c
  · rcases List.mem_append.1 hm with hm | hm
    · have c := h.k8 f' hm k hk; rw [hold k ((h.fo f' hm).lt k hk) (by omega)]; exact c
    · obtain rfl := List.mem_singleton.1 hm
      have c := h7 k hk; rw [hold k (hok.lt k hk) (by omega)]; exact c
  · refine hf.below hB (fun k hk => ?_)
    rcases hk with rfl | e
    · exact h.kb.2
    · exact (h.k1 k e).2
end
end Go.Proofs.YtafkpmjifgohcaaGreatDoor
