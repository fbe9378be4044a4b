/- The law's own follows: the chunks of a file against the document's data. -/
import Derived.Test.YtafkpmjifgohcaaDoorChunkeduptoPart21
import Derived.Test.YtafkpmjifgohcaaDoorChunkeduptoPart26
import Derived.Test.YtafkpmjifgohcaaDoorChunkeduptoPart27
namespace Go.Proofs.YtafkpmjifgohcaaDoor
open Go.RowKit Go.Shelf
attribute [local go_sem] Oper.semAt_some

/-- A function that is there is not nil. -/
theorem eq_funcC (fn : Fn) (cap : Array Value) (W : World) : (binOp .eql 73 (.func fn #[] cap) .nilFunc).run Tryd.prog W = .ok (.bool false) W := by
  have h := Tryd.underlying73
  have e : Op.maxDepth = (Op.maxDepth - 1) + 1 := by decide
  simp only [binOp, Op.equal]
  rw [e]
  unfold Op.equalIn
  simp [go_sem, run_underlying h]

/-- What comes from a place on, against the document's data. -/
theorem follow_seq (B g q1 q2 k0 : Nat) (s : ByteArray) (v : Value) (bs : List Sk.Blk) (d : Nat) (p : Int) (A : Nat → Addr) (X : Nat → Prop) (w w5 : World) (hS : SentW w A w.heap.size) (hb5 : Below w.heap.size w w5) (hP : PFile w B g s v bs d) (hG : Sk.Good s.data.toList bs d) (hs : s.size ≤ 65536) (hl : bs.length ≤ 20000)
    (hq1 : Var w5 q1 (.pointer (some ⟨g, 0, none⟩)) 32) (hq2 : Var w5 q2 (.int .i64 p) 3) (hX : ∀ b, X b → w.heap.size ≤ b ∧ b < w5.heap.size) (hX1 : ¬ X q1) (hX2 : ¬ X q2)
    (hc : ((p < 0 ∨ (d : Int) ≤ p) ∧ k0 = bs.length) ∨ (∃ n : Nat, p = n ∧ k0 < bs.length ∧ (Sk.bk bs k0).frm ≤ n ∧ n < (Sk.bk bs k0).frm + (Sk.bk bs k0).size)) :
    ∃ cs : List (Nat × List UInt8), (∀ W, Below w5.heap.size w5 W → W.heap.size = w5.heap.size + 2 → Yields Tryd.prog 53 #[.pointer (some ⟨q2, 0, none⟩), .pointer (some ⟨q1, 0, none⟩)] encC cs X W) ∧
      (∀ i x, cs[i]? = some x → k0 + i < bs.length ∧ x.1 = k0 + i ∧ ∃ (o : List UInt8) (n : Nat), p = n ∧ Sk.upto s.data.toList bs (k0 + i) = .good o ∧ x.2 = o.drop (max n (Sk.bk bs (k0 + i)).frm - (Sk.bk bs (Sk.lastF bs (k0 + i))).frm) ∧ (Sk.bk bs (Sk.lastF bs (k0 + i))).frm ≤ (Sk.bk bs (k0 + i)).frm ∧
        o.length + (Sk.bk bs (Sk.lastF bs (k0 + i))).frm = (Sk.bk bs (k0 + i)).frm + (Sk.bk bs (k0 + i)).size ∧ n ≤ (Sk.bk bs (k0 + i)).frm + (Sk.bk bs (k0 + i)).size) ∧
      (k0 + cs.length = bs.length ∨ (k0 + cs.length < bs.length ∧ ∃ why j, Sk.upto s.data.toList bs (k0 + cs.length) = .bad why j ∧ (why = 6 ∨ why = 7))) := by
  have hz := hb5.size
  rcases hc with ⟨hr, hk⟩ | ⟨n, rfl, k1, k2, k3⟩
  · refine ⟨[], fun W hW _ => ?_, (fun i x hx => by simp at hx), .inl (by simp [hk])⟩
    exact yields_out B g q1 q2 s v bs d p X W (hP.below (hb5.trans (hW.mono hz))) (hq1.below hW) (hq2.below hW) hr
  · refine ⟨Sk.chunks s.data.toList bs k0 n, fun W hW hWz => ?_, fun i x hx => ?_, Sk.chunks_end hG k0 n k1⟩
    · have h3 : Below w.heap.size w W := hb5.trans (hW.mono hz)
      have hgl := hP.lt
      have l1 := hq1.lt
      have l2 := hq2.lt
      refine yields_in B g q1 q2 k0 s v bs d n A w.heap.size X W (hP.below h3) hG hs hl (hq1.below hW) (hq2.below hW) ⟨k1, k2, k3⟩ (hS.below h3) ⟨fun b hb => ?_, ⟨fun hx => ?_, by omega⟩, fun b hb => ⟨fun hx => ?_, ?_⟩, ⟨hX1, by omega⟩, ⟨hX2, by omega⟩, ⟨fun b hb => (hX b hb).1, by omega⟩⟩
      · have := hX b hb; omega
      · have := hX g hx; omega
      · have := hX b hx; have := hP.row.lt b hb; omega
      · have := hP.row.lt b hb; omega
    · have hi := (List.getElem?_eq_some_iff.1 hx).1
      obtain ⟨h1, o, h2, h3, h4, h5⟩ := Sk.chunks_upto hG k0 n k1 i hi
      rw [h3] at hx
      cases hx
      refine ⟨h1, rfl, o, n, rfl, h2, rfl, h4, h5, ?_⟩
      rcases Nat.eq_zero_or_pos i with e | e
      · subst e; rw [Nat.add_zero]; omega
      · have h6 := hG.nxt k0 (by omega)
        have h7 := hG.frm_le (k0 + 1) (i - 1) (by omega)
        rw [show k0 + 1 + (i - 1) = k0 + i by omega] at h7
        omega

/-- The law's own variables: the document's file, the place, how many, what is answered, the present block. -/
structure FV (w W : World) (h : Nat) (p : Int) (many : Nat) (res : Bool) (k : Nat) : Prop where
  r : Var W w.heap.size (.pointer (some ⟨h, 0, none⟩)) 65
  f : Var W (w.heap.size + 1) (.int .i64 p) 3
  m : Var W (w.heap.size + 2) (.int .i64 many) 3
  b : Var W (w.heap.size + 3) (.bool res) 4
  k : Var W (w.heap.size + 4) (.int .i64 k) 3
  bel : Below w.heap.size w W

theorem FV.below {w W W' : World} {h : Nat} {p : Int} {many : Nat} {res : Bool} {k : Nat} (H : FV w W h p many res k) (hb : Below (w.heap.size + 5) W W') : FV w W' h p many res k :=
  ⟨(hb.block _ (by omega)).trans H.r, (hb.block _ (by omega)).trans H.f, (hb.block _ (by omega)).trans H.m, (hb.block _ (by omega)).trans H.b, (hb.block _ (by omega)).trans H.k, H.bel.trans (hb.mono (by omega))⟩
theorem FV.low {w W : World} {h : Nat} {p : Int} {many : Nat} {res : Bool} {k : Nat} (H : FV w W h p many res k) : w.heap.size + 5 ≤ W.heap.size := by
  have := H.k.lt
  omega
theorem FV.setK {w W : World} {h : Nat} {p : Int} {many : Nat} {res : Bool} {k : Nat} (H : FV w W h p many res k) (k' : Nat) : FV w (W.setCell ⟨w.heap.size + 4, 0, none⟩ (.int .i64 k')) h p many res k' :=
  ⟨(heap_setCell_ne _ _ _ _ (by show w.heap.size ≠ w.heap.size + 4; omega)).trans H.r, (heap_setCell_ne _ _ _ _ (by show w.heap.size + 1 ≠ w.heap.size + 4; omega)).trans H.f, (heap_setCell_ne _ _ _ _ (by show w.heap.size + 2 ≠ w.heap.size + 4; omega)).trans H.m, (heap_setCell_ne _ _ _ _ (by show w.heap.size + 3 ≠ w.heap.size + 4; omega)).trans H.b, H.k.set _, H.bel.setCell (p := ⟨w.heap.size + 4, 0, none⟩) (by show w.heap.size ≤ w.heap.size + 4; omega) _⟩

theorem FV.setB {w W : World} {h : Nat} {p : Int} {many : Nat} {res : Bool} {k : Nat} (H : FV w W h p many res k) (b : Bool) : FV w (W.setCell ⟨w.heap.size + 3, 0, none⟩ (.bool b)) h p many b k :=
  ⟨(heap_setCell_ne _ _ _ _ (by show w.heap.size ≠ w.heap.size + 3; omega)).trans H.r, (heap_setCell_ne _ _ _ _ (by show w.heap.size + 1 ≠ w.heap.size + 3; omega)).trans H.f, (heap_setCell_ne _ _ _ _ (by show w.heap.size + 2 ≠ w.heap.size + 3; omega)).trans H.m, H.b.set _, (heap_setCell_ne _ _ _ _ (by show w.heap.size + 4 ≠ w.heap.size + 3; omega)).trans H.k, H.bel.setCell (p := ⟨w.heap.size + 3, 0, none⟩) (by show w.heap.size ≤ w.heap.size + 3; omega) _⟩

/-- One chunk more. -/
theorem fv_next {w W w1 : World} {h : Nat} {p : Int} {many k i zn : Nat} {x y : Int} (H : FV w W h p many false k) (V : Var W zn (.int .i64 i) 3) (hz : w.heap.size + 5 ≤ zn) (hb : Below W.heap.size W w1) (hx : x = ((i + 1 : Nat) : Int)) (hy : y = ((k + 1 : Nat) : Int)) :
    Fr (fun b => b = w.heap.size + 3 ∨ b = w.heap.size + 4 ∨ b = zn) W (((w1.setCell ⟨zn, 0, none⟩ (.int .i64 x)).setCell ⟨w.heap.size + 4, 0, none⟩ (.int .i64 y)).drew) ∧
    FV w (((w1.setCell ⟨zn, 0, none⟩ (.int .i64 x)).setCell ⟨w.heap.size + 4, 0, none⟩ (.int .i64 y)).drew) h p many false (k + 1) ∧ Var (((w1.setCell ⟨zn, 0, none⟩ (.int .i64 x)).setCell ⟨w.heap.size + 4, 0, none⟩ (.int .i64 y)).drew) zn (.int .i64 ((i + 1 : Nat) : Int)) 3 := by
  subst hx hy
  have v1 := H.below (hb.mono H.low)
  have v2 := V.below hb
  have a1 : FV w (w1.setCell ⟨zn, 0, none⟩ (.int .i64 ((i + 1 : Nat) : Int))) h p many false k := v1.below ((Below.refl _ _).setCell (p := ⟨zn, 0, none⟩) hz _)
  refine ⟨?_, (a1.setK (k + 1)).below ((Below.refl _ _).drew), ?_⟩
  · refine (((below_fr hb _).then (fr_setCell w1 ⟨zn, 0, none⟩ _) (fun b _ hk => .inr (.inr hk))).then (fr_setCell _ ⟨w.heap.size + 4, 0, none⟩ _) (fun b _ hk => .inr (.inl hk))).then (below_fr ((Below.refl _ _).drew) (fun _ => False)) (fun b _ hk => hk.elim)
  · show Var ((w1.setCell ⟨zn, 0, none⟩ (.int .i64 ((i + 1 : Nat) : Int))).setCell ⟨w.heap.size + 4, 0, none⟩ (.int .i64 ((k + 1 : Nat) : Int))) zn _ _
    exact (heap_setCell_ne _ ⟨w.heap.size + 4, 0, none⟩ _ zn (by show zn ≠ w.heap.size + 4; omega)).trans (v2.set _)

/-- One chunk more, the last that is asked for. -/
theorem fv_last {w W w1 : World} {h : Nat} {p : Int} {many k i zn : Nat} {x y : Int} (H : FV w W h p many false k) (V : Var W zn (.int .i64 i) 3) (hz : w.heap.size + 5 ≤ zn) (hb : Below W.heap.size W w1) (hx : x = ((i + 1 : Nat) : Int)) (hy : y = ((k + 1 : Nat) : Int)) :
    Fr (fun b => b = w.heap.size + 3 ∨ b = w.heap.size + 4 ∨ b = zn) W ((((w1.setCell ⟨zn, 0, none⟩ (.int .i64 x)).setCell ⟨w.heap.size + 4, 0, none⟩ (.int .i64 y)).setCell ⟨w.heap.size + 3, 0, none⟩ (.bool true)).drew) ∧
    FV w ((((w1.setCell ⟨zn, 0, none⟩ (.int .i64 x)).setCell ⟨w.heap.size + 4, 0, none⟩ (.int .i64 y)).setCell ⟨w.heap.size + 3, 0, none⟩ (.bool true)).drew) h p many true (k + 1) := by
  obtain ⟨h1, h2, _⟩ := fv_next H V hz hb hx hy
  have h2' : FV w ((w1.setCell ⟨zn, 0, none⟩ (.int .i64 x)).setCell ⟨w.heap.size + 4, 0, none⟩ (.int .i64 y)) h p many false (k + 1) := ⟨h2.r, h2.f, h2.m, h2.b, h2.k, ⟨h2.bel.os, h2.bel.tape, h2.bel.output, h2.bel.size, h2.bel.block⟩⟩
  have h1' : Fr (fun b => b = w.heap.size + 3 ∨ b = w.heap.size + 4 ∨ b = zn) W ((w1.setCell ⟨zn, 0, none⟩ (.int .i64 x)).setCell ⟨w.heap.size + 4, 0, none⟩ (.int .i64 y)) := ⟨h1.os, h1.tape, h1.output, h1.size, h1.block⟩
  exact ⟨(h1'.then (fr_setCell _ ⟨w.heap.size + 3, 0, none⟩ _) (fun b _ hk => .inl hk)).then (below_fr ((Below.refl _ _).drew) (fun _ => False)) (fun b _ hk => hk.elim), (h2'.setB true).below ((Below.refl _ _).drew)⟩

theorem fv_new (w : World) (h : Nat) (p : Int) (many : Nat) : FV w (((((w.alloc (.cells #[.pointer (some ⟨h, 0, none⟩)] 65)).alloc (.cells #[.int .i64 p] 3)).alloc (.cells #[.int .i64 many] 3)).alloc (.cells #[.bool false] 4)).alloc (.cells #[.int .i64 0] 3)) h p many false 0 := by
  obtain ⟨w1, h1⟩ : ∃ w1, w1 = w.alloc (.cells #[.pointer (some ⟨h, 0, none⟩)] 65) := ⟨_, rfl⟩
  obtain ⟨w2, h2⟩ : ∃ w2, w2 = w1.alloc (.cells #[.int .i64 p] 3) := ⟨_, rfl⟩
  obtain ⟨w3, h3⟩ : ∃ w3, w3 = w2.alloc (.cells #[.int .i64 many] 3) := ⟨_, rfl⟩
  obtain ⟨w4, h4⟩ : ∃ w4, w4 = w3.alloc (.cells #[.bool false] 4) := ⟨_, rfl⟩
  obtain ⟨w5, h5⟩ : ∃ w5, w5 = w4.alloc (.cells #[.int .i64 0] 3) := ⟨_, rfl⟩
  rw [← h1, ← h2, ← h3, ← h4, ← h5]
  have z1 : w1.heap.size = w.heap.size + 1 := by rw [h1]; simp
  have z2 : w2.heap.size = w.heap.size + 2 := by rw [h2]; simp; omega
  have z3 : w3.heap.size = w.heap.size + 3 := by rw [h3]; simp; omega
  have z4 : w4.heap.size = w.heap.size + 4 := by rw [h4]; simp; omega
  have b1 : Below w.heap.size w w1 := by rw [h1]; exact (Below.refl _ _).alloc (Nat.le_refl _) _
  have b2 : Below w1.heap.size w1 w2 := by rw [h2]; exact (Below.refl _ _).alloc (Nat.le_refl _) _
  have b3 : Below w2.heap.size w2 w3 := by rw [h3]; exact (Below.refl _ _).alloc (Nat.le_refl _) _
  have b4 : Below w3.heap.size w3 w4 := by rw [h4]; exact (Below.refl _ _).alloc (Nat.le_refl _) _
  have b5 : Below w4.heap.size w4 w5 := by rw [h5]; exact (Below.refl _ _).alloc (Nat.le_refl _) _
  have v1 : Var w1 w.heap.size (.pointer (some ⟨h, 0, none⟩)) 65 := by rw [h1]; exact Var.new _ _ _
  have v2 : Var w2 (w.heap.size + 1) (.int .i64 p) 3 := by rw [h2, ← z1]; exact Var.new _ _ _
  have v3 : Var w3 (w.heap.size + 2) (.int .i64 many) 3 := by rw [h3, ← z2]; exact Var.new _ _ _
  have v4 : Var w4 (w.heap.size + 3) (.bool false) 4 := by rw [h4, ← z3]; exact Var.new _ _ _
  have v5 : Var w5 (w.heap.size + 4) (.int .i64 (0 : Nat)) 3 := by rw [h5, ← z4]; exact Var.new _ _ _
  exact ⟨(((v1.below b2).below b3).below b4).below b5, ((v2.below b3).below b4).below b5, (v3.below b4).below b5, v4.below b5, v5, b1.trans ((b2.mono (by omega)).trans ((b3.mono (by omega)).trans ((b4.mono (by omega)).trans (b5.mono (by omega)))))⟩

/-- What is answered lies in a variable. -/
theorem results_box {w : World} {q : Nat} {b : Bool} (tmps : Array Value) (ht : tmps[8]?.getD undef = .pointer (some ⟨q, 0, none⟩)) (hv : w.cell? ⟨q, 0, none⟩ = some (.bool b)) : (results Tryd.f30 tmps).run Tryd.prog w = .ok (.bool b) w := by
  simp [results, ht, go_sem, hv]

set_option maxRecDepth 100000 in
set_option maxHeartbeats 4000000 in
theorem follows_any (B B' g ro : Nat) (s : ByteArray) (v u : Value) (bs : List Sk.Blk) (d : Nat) (p : Int) (many : Nat) (A : Nat → Addr) (w : World) (hP : PFile w B g s v bs d) (hR : RFile w B' ro s u bs d) (hG : Sk.Good s.data.toList bs d) (hs : s.size ≤ 65536) (hl : bs.length ≤ 20000) (hp : Fits p) (hm : 1 ≤ many) (hm2 : many ≤ 100000) (hS : SentW w A w.heap.size) :
    Calls Tryd.prog 30 #[.pointer (some ⟨g, 0, none⟩), .pointer (some ⟨ro, 0, none⟩), .int .i64 p, .int .i64 many] w fun e w' => e = .returned (.bool true) ∧ Below w.heap.size w w' := by
  have HP : Hid (PFile w B g s v bs d) := hP
  have HR : Hid (RFile w B' ro s u bs d) := hR
  have HG : Hid (Sk.Good s.data.toList bs d) := hG
  have HS : Hid (SentW w A w.heap.size) := hS
  have HPF : Hid (Fits p) := hp
  obtain ⟨uo, ucap, rfl⟩ := hR.row.form
  have c1 := hR.cell 1
  have c2 := hR.cell 2
  simp at c1 c2
  have hlt := hR.lt
  clear hP hR hG hS hp
  refine (callsIn_wide (n := 0)).1 (callsIn_of_wp_marks Tryd.func30 rfl trivial ?_ rfl)
  refine wpIn_wide.2 ?_
  simp only [Tryd.ntmps30, List.size_toArray, List.length_cons, List.length_nil, Nat.reduceAdd, Nat.reduceSub, Array.replicate_succ, Array.replicate_zero, List.push_toArray, List.append_toArray, List.nil_append, List.cons_append]
  go_wp2_with fail
  have hfv := fv_new w ro p many
  generalize ((((w.alloc (.cells #[.pointer (some ⟨ro, 0, none⟩)] 65)).alloc (.cells #[.int .i64 p] 3)).alloc (.cells #[.int .i64 many] 3)).alloc (.cells #[.bool false] 4)).alloc (.cells #[.int .i64 0] 3) = wa at *
  have HFV : Hid (FV w wa ro p many false 0) := hfv
  have dr := hfv.r.cell
  have df := hfv.f.cell
  have dk : wa.cell? ⟨w.heap.size + 1 + 1 + 1 + 1, 0, none⟩ = some (.int .i64 0) := hfv.k.cell
  have fk : wa.frozen? ⟨w.heap.size + 1 + 1 + 1 + 1, 0, none⟩ = false := hfv.k.free
  have e1 := (hfv.bel.cell (p := ⟨ro, 1, none⟩) hlt).trans c1
  have e2 := (hfv.bel.cell (p := ⟨ro, 2, none⟩) hlt).trans c2
  clear hfv
  have hdat := HG.out.dat
  have hcase : (∃ n : Nat, p = -((n : Int) + 1)) ∨ (∃ n : Nat, p = n ∧ d ≤ n) ∨ (∃ n : Nat, p = n ∧ n < d) := by
    by_cases h0 : p < 0
    · exact .inl ⟨(-p - 1).toNat, by omega⟩
    · by_cases h1 : p < (d : Int)
      · exact .inr (.inr ⟨p.toNat, by omega, by omega⟩)
      · exact .inr (.inl ⟨p.toNat, by omega, by omega⟩)
  rcases hcase with ⟨n, rfl⟩ | ⟨n, rfl, hn⟩ | ⟨n, rfl, hn⟩
  · have b1 : -((n : Int) + 1) < 0 := by omega
    go_quiet (fail)
    have HFQ : Hid (FV w (wa.drewN nq) ro (-((n : Int) + 1)) many false 0) := HFV.out.below (below_drewN (Below.refl _ _) _)
    clear dr df dk fk e1 e2
    generalize wa.drewN nq = W0 at *
    have dr := HFQ.out.r.cell
    have dk : W0.cell? ⟨w.heap.size + 1 + 1 + 1 + 1, 0, none⟩ = some (.int .i64 0) := HFQ.out.k.cell
    have fk : W0.frozen? ⟨w.heap.size + 1 + 1 + 1 + 1, 0, none⟩ = false := HFQ.out.k.free
    have e1 := (HFQ.out.bel.cell (p := ⟨ro, 1, none⟩) hlt).trans c1
    have hfk := HFQ.out.setK bs.length
    have HZ0 : Hid (w.heap.size + 5 ≤ W0.heap.size) := HFQ.out.low
    have HFW : Hid (FV w ((W0.setCell ⟨w.heap.size + 1 + 1 + 1 + 1, 0, none⟩ (.int .i64 bs.length)).alloc (.cells #[.int .i64 0] 3)) ro (-((n : Int) + 1)) many false bs.length) := hfk.below ((Below.refl _ _).alloc hfk.low _)
    have HVN : Hid (Var ((W0.setCell ⟨w.heap.size + 1 + 1 + 1 + 1, 0, none⟩ (.int .i64 bs.length)).alloc (.cells #[.int .i64 0] 3)) W0.heap.size (.int .i64 0) 3) := by
      have := Var.new (W0.setCell ⟨w.heap.size + 1 + 1 + 1 + 1, 0, none⟩ (.int .i64 bs.length)) (.int .i64 0) 3
      rw [World.size_setCell] at this
      exact this
    have dfw : ((W0.setCell ⟨w.heap.size + 1 + 1 + 1 + 1, 0, none⟩ (.int .i64 bs.length)).alloc (.cells #[.int .i64 0] 3)).cell? ⟨w.heap.size + 1, 0, none⟩ = some (.int .i64 ((-((n : Int) + 1)))) := HFW.out.f.cell
    clear hfk
    go_wp2_with fail
    have HZB : Hid (((W0.setCell ⟨w.heap.size + 1 + 1 + 1 + 1, 0, none⟩ (.int .i64 bs.length)).alloc (.cells #[.int .i64 0] 3)).heap.size = W0.heap.size + 1) := by
      show _ = _
      rw [World.size_alloc, World.size_setCell]
    clear dfw
    generalize ((W0.setCell ⟨w.heap.size + 1 + 1 + 1 + 1, 0, none⟩ (.int .i64 bs.length)).alloc (.cells #[.int .i64 0] 3)) = wb at *
    refine (chunks_call g _ wb).mono ?_
    rintro e w5 ⟨rfl, hb5, hq1, hq2, hz5⟩
    have hzb : wb.heap.size = W0.heap.size + 1 := HZB.out
    have hz0 : w.heap.size + 5 ≤ W0.heap.size := HZ0.out
    have HF5 : Hid (FV w w5 ro ((-((n : Int) + 1))) many false bs.length) := HFW.out.below (hb5.mono (by omega))
    have HN5 : Hid (Var w5 W0.heap.size (.int .i64 0) 3) := HVN.out.below hb5
    have HQ1 : Hid (Var w5 wb.heap.size (.pointer (some ⟨g, 0, none⟩)) 32) := hq1
    have HQ2 : Hid (Var w5 (wb.heap.size + 1) (.int .i64 ((-((n : Int) + 1)))) 3) := hq2
    have HZ5 : Hid (w5.heap.size = wb.heap.size + 2) := hz5
    clear hq1 hq2 hb5 hz5 hzb hz0
    have hef := eq_funcC
    go_wp2_with fail
    clear hef
    have hz5 : w5.heap.size = wb.heap.size + 2 := HZ5.out
    have hzb : wb.heap.size = W0.heap.size + 1 := HZB.out
    have hz0 : w.heap.size + 5 ≤ W0.heap.size := HZ0.out
    obtain ⟨cs, hyl, hstep, hend⟩ := follow_seq B g wb.heap.size (wb.heap.size + 1) bs.length s v bs d ((-((n : Int) + 1))) A (fun b => b = w.heap.size + 3 ∨ b = w.heap.size + 4 ∨ b = W0.heap.size) w w5 HS.out HF5.out.bel HP.out HG.out hs hl HQ1.out HQ2.out (fun b hb => by omega) (by omega) (by omega) (.inl ⟨.inl b1, rfl⟩)
    refine wpIn_wide.1 (range_law (n := 0) (a₁ := ?_) rfl (enters_of Tryd.func53 (by kernel_rfl) rfl) (X := fun b => b = w.heap.size + 3 ∨ b = w.heap.size + 4 ∨ b = W0.heap.size) (fun b hb => by omega) hyl (fun _ => rfl)
      (fun i W => FV w W ro ((-((n : Int) + 1))) many false (bs.length + i) ∧ Var W W0.heap.size (.int .i64 i) 3 ∧ i < many) (fun c i W => c = .ret ∧ FV w W ro ((-((n : Int) + 1))) many true (bs.length + i)) ?hI ?hIx ?h0 ?assign ?body ?done ?stop)
    case assign =>
      intro m l x W K hK
      simp only [encC]
      gi_wp2
      exact hK
    case hI =>
      rintro i W W' ⟨h1, h2, h3⟩ hb
      exact ⟨h1.below (hb.mono (by omega)), (hb.block _ (by omega)).trans h2, h3⟩
    case hIx =>
      rintro c i W W' ⟨h1, h2⟩ hb
      exact ⟨h1, h2.below (hb.mono (by omega))⟩
    case h0 => exact ⟨HF5.out, HN5.out, by omega⟩
    case body =>
      rintro m l i ⟨n1, x2⟩ W hx ⟨h1, h2, h3⟩ hWz
      obtain ⟨s1, _⟩ := hstep i _ hx
      omega
    case done =>
      rintro D W hD ⟨h1, h2, h3⟩ hK
      have d1 := h1.r.cell
      have d5 : W.cell? ⟨w.heap.size + 1 + 1 + 1 + 1, 0, none⟩ = some (.int .i64 ((bs.length + cs.length : Nat) : Int)) := h1.k.cell
      have d4 : W.cell? ⟨w.heap.size + 1 + 1 + 1, 0, none⟩ = some (.bool false) := h1.b.cell
      have f4 : W.frozen? ⟨w.heap.size + 1 + 1 + 1, 0, none⟩ = false := h1.b.free
      have e1 := (h1.bel.cell (p := ⟨ro, 1, none⟩) hlt).trans c1
      have HW1 : Hid (FV w W ro (-((n : Int) + 1)) many false (bs.length + cs.length)) := h1
      have HKD : Hid (W.heap[D]? = some (.deferred (some []))) := hK
      have hcl0 : cs.length = 0 := by omega
      rw [hcl0, Nat.add_zero] at d5
      clear h1 h2 hK hyl hstep hend
      go_wp2_with fail
      go_quiet (fail)
      go_wp2
      have hv := (HW1.out.below (below_drewN (Below.refl _ _) nq)).setB true
      have hKV : ((W.drewN nq).setCell ⟨w.heap.size + 3, 0, none⟩ (.bool true)).heap[D]? = some (.deferred (some [])) := (heap_setCell_ne _ ⟨w.heap.size + 3, 0, none⟩ _ D (by show D ≠ w.heap.size + 3; omega)).trans HKD.out
      refine ⟨by simp, .inl ⟨_, _, rfl, run_takeDeferred hKV, ?_⟩⟩
      exact ⟨_, results_box _ rfl (Var.fr hv.b (fr_putObj _ D _) (by omega)).cell, rfl, hv.bel.trans ((fr_putObj _ D _).below hv.bel.size (fun b hb => by omega))⟩
    case stop =>
      rintro D c i W hD hi ⟨rfl, h2⟩ hK
      have d4 : W.cell? ⟨w.heap.size + 1 + 1 + 1, 0, none⟩ = some (.bool true) := h2.b.cell
      gi_wp2
      refine ⟨by simp, .inl ⟨_, _, rfl, run_takeDeferred hK, ?_⟩⟩
      have hpo : Below w.heap.size w (W.putObj D (.deferred none)) := h2.bel.trans ((fr_putObj W D _).below h2.bel.size (fun b hb => by omega))
      have hcD : (W.putObj D (.deferred none)).cell? ⟨w.heap.size + 1 + 1 + 1, 0, none⟩ = some (.bool true) := (Var.fr h2.b (fr_putObj W D _) (by omega)).cell
      exact ⟨_, results_box _ rfl hcD, rfl, hpo⟩
  · have b1 : (d : Int) ≤ (n : Int) := by omega
    go_quiet (fail)
    have HFQ : Hid (FV w (wa.drewN nq) ro (n : Int) many false 0) := HFV.out.below (below_drewN (Below.refl _ _) _)
    clear dr df dk fk e1 e2
    generalize wa.drewN nq = W0 at *
    have dr := HFQ.out.r.cell
    have dk : W0.cell? ⟨w.heap.size + 1 + 1 + 1 + 1, 0, none⟩ = some (.int .i64 0) := HFQ.out.k.cell
    have fk : W0.frozen? ⟨w.heap.size + 1 + 1 + 1 + 1, 0, none⟩ = false := HFQ.out.k.free
    have e1 := (HFQ.out.bel.cell (p := ⟨ro, 1, none⟩) hlt).trans c1
    have hfk := HFQ.out.setK bs.length
    have HZ0 : Hid (w.heap.size + 5 ≤ W0.heap.size) := HFQ.out.low
    have HFW : Hid (FV w ((W0.setCell ⟨w.heap.size + 1 + 1 + 1 + 1, 0, none⟩ (.int .i64 bs.length)).alloc (.cells #[.int .i64 0] 3)) ro (n : Int) many false bs.length) := hfk.below ((Below.refl _ _).alloc hfk.low _)
    have HVN : Hid (Var ((W0.setCell ⟨w.heap.size + 1 + 1 + 1 + 1, 0, none⟩ (.int .i64 bs.length)).alloc (.cells #[.int .i64 0] 3)) W0.heap.size (.int .i64 0) 3) := by
      have := Var.new (W0.setCell ⟨w.heap.size + 1 + 1 + 1 + 1, 0, none⟩ (.int .i64 bs.length)) (.int .i64 0) 3
      rw [World.size_setCell] at this
      exact this
    have dfw : ((W0.setCell ⟨w.heap.size + 1 + 1 + 1 + 1, 0, none⟩ (.int .i64 bs.length)).alloc (.cells #[.int .i64 0] 3)).cell? ⟨w.heap.size + 1, 0, none⟩ = some (.int .i64 ((n : Int))) := HFW.out.f.cell
    clear hfk
    go_wp2_with fail
    have HZB : Hid (((W0.setCell ⟨w.heap.size + 1 + 1 + 1 + 1, 0, none⟩ (.int .i64 bs.length)).alloc (.cells #[.int .i64 0] 3)).heap.size = W0.heap.size + 1) := by
      show _ = _
      rw [World.size_alloc, World.size_setCell]
    clear dfw
    generalize ((W0.setCell ⟨w.heap.size + 1 + 1 + 1 + 1, 0, none⟩ (.int .i64 bs.length)).alloc (.cells #[.int .i64 0] 3)) = wb at *
    refine (chunks_call g _ wb).mono ?_
    rintro e w5 ⟨rfl, hb5, hq1, hq2, hz5⟩
    have hzb : wb.heap.size = W0.heap.size + 1 := HZB.out
    have hz0 : w.heap.size + 5 ≤ W0.heap.size := HZ0.out
    have HF5 : Hid (FV w w5 ro ((n : Int)) many false bs.length) := HFW.out.below (hb5.mono (by omega))
    have HN5 : Hid (Var w5 W0.heap.size (.int .i64 0) 3) := HVN.out.below hb5
    have HQ1 : Hid (Var w5 wb.heap.size (.pointer (some ⟨g, 0, none⟩)) 32) := hq1
    have HQ2 : Hid (Var w5 (wb.heap.size + 1) (.int .i64 ((n : Int))) 3) := hq2
    have HZ5 : Hid (w5.heap.size = wb.heap.size + 2) := hz5
    clear hq1 hq2 hb5 hz5 hzb hz0
    have hef := eq_funcC
    go_wp2_with fail
    clear hef
    have hz5 : w5.heap.size = wb.heap.size + 2 := HZ5.out
    have hzb : wb.heap.size = W0.heap.size + 1 := HZB.out
    have hz0 : w.heap.size + 5 ≤ W0.heap.size := HZ0.out
    obtain ⟨cs, hyl, hstep, hend⟩ := follow_seq B g wb.heap.size (wb.heap.size + 1) bs.length s v bs d ((n : Int)) A (fun b => b = w.heap.size + 3 ∨ b = w.heap.size + 4 ∨ b = W0.heap.size) w w5 HS.out HF5.out.bel HP.out HG.out hs hl HQ1.out HQ2.out (fun b hb => by omega) (by omega) (by omega) (.inl ⟨.inr b1, rfl⟩)
    refine wpIn_wide.1 (range_law (n := 0) (a₁ := ?_) rfl (enters_of Tryd.func53 (by kernel_rfl) rfl) (X := fun b => b = w.heap.size + 3 ∨ b = w.heap.size + 4 ∨ b = W0.heap.size) (fun b hb => by omega) hyl (fun _ => rfl)
      (fun i W => FV w W ro ((n : Int)) many false (bs.length + i) ∧ Var W W0.heap.size (.int .i64 i) 3 ∧ i < many) (fun c i W => c = .ret ∧ FV w W ro ((n : Int)) many true (bs.length + i)) ?hI ?hIx ?h0 ?assign ?body ?done ?stop)
    case assign =>
      intro m l x W K hK
      simp only [encC]
      gi_wp2
      exact hK
    case hI =>
      rintro i W W' ⟨h1, h2, h3⟩ hb
      exact ⟨h1.below (hb.mono (by omega)), (hb.block _ (by omega)).trans h2, h3⟩
    case hIx =>
      rintro c i W W' ⟨h1, h2⟩ hb
      exact ⟨h1, h2.below (hb.mono (by omega))⟩
    case h0 => exact ⟨HF5.out, HN5.out, by omega⟩
    case body =>
      rintro m l i ⟨n1, x2⟩ W hx ⟨h1, h2, h3⟩ hWz
      obtain ⟨s1, _⟩ := hstep i _ hx
      omega
    case done =>
      rintro D W hD ⟨h1, h2, h3⟩ hK
      have d1 := h1.r.cell
      have d5 : W.cell? ⟨w.heap.size + 1 + 1 + 1 + 1, 0, none⟩ = some (.int .i64 ((bs.length + cs.length : Nat) : Int)) := h1.k.cell
      have d4 : W.cell? ⟨w.heap.size + 1 + 1 + 1, 0, none⟩ = some (.bool false) := h1.b.cell
      have f4 : W.frozen? ⟨w.heap.size + 1 + 1 + 1, 0, none⟩ = false := h1.b.free
      have e1 := (h1.bel.cell (p := ⟨ro, 1, none⟩) hlt).trans c1
      have HW1 : Hid (FV w W ro (n : Int) many false (bs.length + cs.length)) := h1
      have HKD : Hid (W.heap[D]? = some (.deferred (some []))) := hK
      have hcl0 : cs.length = 0 := by omega
      rw [hcl0, Nat.add_zero] at d5
      clear h1 h2 hK hyl hstep hend
      go_wp2_with fail
      go_quiet (fail)
      go_wp2
      have hv := (HW1.out.below (below_drewN (Below.refl _ _) nq)).setB true
      have hKV : ((W.drewN nq).setCell ⟨w.heap.size + 3, 0, none⟩ (.bool true)).heap[D]? = some (.deferred (some [])) := (heap_setCell_ne _ ⟨w.heap.size + 3, 0, none⟩ _ D (by show D ≠ w.heap.size + 3; omega)).trans HKD.out
      refine ⟨by simp, .inl ⟨_, _, rfl, run_takeDeferred hKV, ?_⟩⟩
      exact ⟨_, results_box _ rfl (Var.fr hv.b (fr_putObj _ D _) (by omega)).cell, rfl, hv.bel.trans ((fr_putObj _ D _).below hv.bel.size (fun b hb => by omega))⟩
    case stop =>
      rintro D c i W hD hi ⟨rfl, h2⟩ hK
      have d4 : W.cell? ⟨w.heap.size + 1 + 1 + 1, 0, none⟩ = some (.bool true) := h2.b.cell
      gi_wp2
      refine ⟨by simp, .inl ⟨_, _, rfl, run_takeDeferred hK, ?_⟩⟩
      have hpo : Below w.heap.size w (W.putObj D (.deferred none)) := h2.bel.trans ((fr_putObj W D _).below h2.bel.size (fun b hb => by omega))
      have hcD : (W.putObj D (.deferred none)).cell? ⟨w.heap.size + 1 + 1 + 1, 0, none⟩ = some (.bool true) := (Var.fr h2.b (fr_putObj W D _) (by omega)).cell
      exact ⟨_, results_box _ rfl hcD, rfl, hpo⟩
  · have b1 : (n : Int) < (d : Int) := by omega
    obtain ⟨k0, hk⟩ := HG.out.find n hn
    have HK : Hid (k0 < bs.length ∧ (Sk.bk bs k0).frm ≤ n ∧ n < (Sk.bk bs k0).frm + (Sk.bk bs k0).size) := hk
    have hk0 : k0 < bs.length := hk.1
    clear hk
    go_quiet (fail)
    have HFQ : Hid (FV w (wa.drewN nq) ro (n : Int) many false 0) := HFV.out.below (below_drewN (Below.refl _ _) _)
    go_wp2_with fail
    refine (refOf_any _ B' ro s _ bs d k0 n (HR.out.below HFQ.out.bel) HG.out hl (by omega) HK.out).mono ?_
    rintro e W0 ⟨rfl, hbw⟩
    have HFQ0 : Hid (FV w W0 ro (n : Int) many false 0) := HFQ.out.below (hbw.mono HFQ.out.low)
    clear HFQ hbw dr df dk fk e1 e2
    have HFQ : Hid (FV w W0 ro (n : Int) many false 0) := HFQ0.out
    have dk : W0.cell? ⟨w.heap.size + 1 + 1 + 1 + 1, 0, none⟩ = some (.int .i64 0) := HFQ.out.k.cell
    have fk : W0.frozen? ⟨w.heap.size + 1 + 1 + 1 + 1, 0, none⟩ = false := HFQ.out.k.free
    have hfk := HFQ.out.setK k0
    have HZ0 : Hid (w.heap.size + 5 ≤ W0.heap.size) := HFQ.out.low
    have HFW : Hid (FV w ((W0.setCell ⟨w.heap.size + 1 + 1 + 1 + 1, 0, none⟩ (.int .i64 k0)).alloc (.cells #[.int .i64 0] 3)) ro (n : Int) many false k0) := hfk.below ((Below.refl _ _).alloc hfk.low _)
    have HVN : Hid (Var ((W0.setCell ⟨w.heap.size + 1 + 1 + 1 + 1, 0, none⟩ (.int .i64 k0)).alloc (.cells #[.int .i64 0] 3)) W0.heap.size (.int .i64 0) 3) := by
      have := Var.new (W0.setCell ⟨w.heap.size + 1 + 1 + 1 + 1, 0, none⟩ (.int .i64 k0)) (.int .i64 0) 3
      rw [World.size_setCell] at this
      exact this
    have dfw : ((W0.setCell ⟨w.heap.size + 1 + 1 + 1 + 1, 0, none⟩ (.int .i64 k0)).alloc (.cells #[.int .i64 0] 3)).cell? ⟨w.heap.size + 1, 0, none⟩ = some (.int .i64 ((n : Int))) := HFW.out.f.cell
    clear hfk
    go_wp2_with fail
    have HZB : Hid (((W0.setCell ⟨w.heap.size + 1 + 1 + 1 + 1, 0, none⟩ (.int .i64 k0)).alloc (.cells #[.int .i64 0] 3)).heap.size = W0.heap.size + 1) := by
      show _ = _
      rw [World.size_alloc, World.size_setCell]
    clear dfw
    generalize ((W0.setCell ⟨w.heap.size + 1 + 1 + 1 + 1, 0, none⟩ (.int .i64 k0)).alloc (.cells #[.int .i64 0] 3)) = wb at *
    refine (chunks_call g _ wb).mono ?_
    rintro e w5 ⟨rfl, hb5, hq1, hq2, hz5⟩
    have hzb : wb.heap.size = W0.heap.size + 1 := HZB.out
    have hz0 : w.heap.size + 5 ≤ W0.heap.size := HZ0.out
    have HF5 : Hid (FV w w5 ro ((n : Int)) many false k0) := HFW.out.below (hb5.mono (by omega))
    have HN5 : Hid (Var w5 W0.heap.size (.int .i64 0) 3) := HVN.out.below hb5
    have HQ1 : Hid (Var w5 wb.heap.size (.pointer (some ⟨g, 0, none⟩)) 32) := hq1
    have HQ2 : Hid (Var w5 (wb.heap.size + 1) (.int .i64 ((n : Int))) 3) := hq2
    have HZ5 : Hid (w5.heap.size = wb.heap.size + 2) := hz5
    clear hq1 hq2 hb5 hz5 hzb hz0
    have hef := eq_funcC
    go_wp2_with fail
    clear hef
    have hz5 : w5.heap.size = wb.heap.size + 2 := HZ5.out
    have hzb : wb.heap.size = W0.heap.size + 1 := HZB.out
    have hz0 : w.heap.size + 5 ≤ W0.heap.size := HZ0.out
    obtain ⟨cs, hyl, hstep, hend⟩ := follow_seq B g wb.heap.size (wb.heap.size + 1) k0 s v bs d ((n : Int)) A (fun b => b = w.heap.size + 3 ∨ b = w.heap.size + 4 ∨ b = W0.heap.size) w w5 HS.out HF5.out.bel HP.out HG.out hs hl HQ1.out HQ2.out (fun b hb => by omega) (by omega) (by omega) (.inr ⟨n, rfl, HK.out⟩)
    refine wpIn_wide.1 (range_law (n := 0) (a₁ := ?_) rfl (enters_of Tryd.func53 (by kernel_rfl) rfl) (X := fun b => b = w.heap.size + 3 ∨ b = w.heap.size + 4 ∨ b = W0.heap.size) (fun b hb => by omega) hyl (fun _ => rfl)
      (fun i W => FV w W ro ((n : Int)) many false (k0 + i) ∧ Var W W0.heap.size (.int .i64 i) 3 ∧ i < many) (fun c i W => c = .ret ∧ FV w W ro ((n : Int)) many true (k0 + i)) ?hI ?hIx ?h0 ?assign ?body ?done ?stop)
    case assign =>
      intro m l x W K hK
      simp only [encC]
      gi_wp2
      exact hK
    case hI =>
      rintro i W W' ⟨h1, h2, h3⟩ hb
      exact ⟨h1.below (hb.mono (by omega)), (hb.block _ (by omega)).trans h2, h3⟩
    case hIx =>
      rintro c i W W' ⟨h1, h2⟩ hb
      exact ⟨h1, h2.below (hb.mono (by omega))⟩
    case h0 => exact ⟨HF5.out, HN5.out, by omega⟩
    case body =>
      rintro m l i ⟨n1, x2⟩ W hx ⟨h1, h2, h3⟩ hWz
      obtain ⟨s1, s2, o, nn, s3, s4, s5, s6, s7, s8⟩ := hstep i _ hx
      dsimp only at s2 s5
      subst s2
      obtain rfl : n = nn := by omega
      have d1 := h1.r.cell
      have d2 := h1.f.cell
      have d3 : W.cell? ⟨w.heap.size + 1 + 1, 0, none⟩ = some (.int .i64 many) := h1.m.cell
      have d4 : W.cell? ⟨w.heap.size + 1 + 1 + 1, 0, none⟩ = some (.bool false) := h1.b.cell
      have d5 : W.cell? ⟨w.heap.size + 1 + 1 + 1 + 1, 0, none⟩ = some (.int .i64 ((k0 : Int) + (i : Int))) := by
        have : W.cell? ⟨w.heap.size + 4, 0, none⟩ = some (.int .i64 ((k0 + i : Nat) : Int)) := h1.k.cell
        rw [show ((k0 + i : Nat) : Int) = (k0 : Int) + (i : Int) by omega] at this
        exact this
      have f4 : W.frozen? ⟨w.heap.size + 1 + 1 + 1, 0, none⟩ = false := h1.b.free
      have f5 : W.frozen? ⟨w.heap.size + 1 + 1 + 1 + 1, 0, none⟩ = false := h1.k.free
      have d6 := h2.cell
      have f6 := h2.free
      have e1 := (h1.bel.cell (p := ⟨ro, 1, none⟩) hlt).trans c1
      have hmi : (i : Int) < (many : Int) := by omega
      have hki : (k0 : Int) + (i : Int) < (bs.length : Int) := by omega
      have HH1 : Hid (FV w W ro (n : Int) many false (k0 + i)) := h1
      have HH2 : Hid (Var W W0.heap.size (.int .i64 i) 3) := h2
      have h1b : Below w.heap.size w W := h1.bel
      clear hstep hyl hend hx h1 h2
      obtain ⟨a, rfl, hac⟩ := (HR.out.below h1b).row.blk (k0 + i) s1
      have x0 := hac 0 (by decide)
      simp [Sk.Blk.cells] at x0
      have xlt := cell_lt x0
      clear hac
      have hup := refUpto_any W.drew B' ro s _ bs d (k0 + i) (HR.out.below h1b.drew) HG.out hs hl s1
      rw [show ((k0 + i : Nat) : Int) = (k0 : Int) + (i : Int) by omega] at hup
      have HUP : Hid (Calls Tryd.prog 49 #[.pointer (some ⟨ro, 0, none⟩), .int .i64 ((k0 : Int) + (i : Int))] W.drew fun e w' => Below W.drew.heap.size W.drew w' ∧ e = .returned (.tuple #[.string ⟨o.toArray⟩, .int .i64 (Sk.bk bs (Sk.lastF bs (k0 + i))).frm, .int .i64 0, .int .i64 0])) := hup.mono fun e w' ⟨h1, h2, _⟩ => ⟨h1, h2 o s4⟩
      clear hup h1b s4
      generalize (Sk.bk bs (Sk.lastF bs (k0 + i))).frm = bg at *
      have hmost := HG.out.le (k0 + i) s1
      generalize (Sk.bk bs (k0 + i)).frm = fr at *
      generalize (Sk.bk bs (k0 + i)).size = sz at *
      have HS5 : Hid (x2 = o.drop (max n fr - bg)) := s5
      clear s5
      gi_wp2
      refine region_round (C := fun w' => w' = W.drew) _ rfl (by kernel_rfl) (by kernel_rfl) (by kernel_rfl) rfl ?_
      repeat (quiet_step (fail))
      refine wpQuiet_nil ?_
      rintro w' rfl
      gi_wp2_with fail
      refine ⟨trivial, (fun h => by simp [Fence.wide] at h), (CallsIn.inRound l (callsIn_wide.2 HUP.out)).mono ?_⟩
      rintro e w1 ⟨hb1, rfl⟩
      have hbW : Below W.heap.size W w1 := (Below.refl _ _).drew.trans hb1
      have g1 := (HH1.out.below (hbW.mono HH1.out.low)).r.cell
      have g2 := (HH1.out.below (hbW.mono HH1.out.low)).f.cell
      have g5 : w1.cell? ⟨w.heap.size + 1 + 1 + 1 + 1, 0, none⟩ = some (.int .i64 ((k0 : Int) + (i : Int))) := (hbW.cell (p := ⟨w.heap.size + 4, 0, none⟩) HH1.out.k.lt).trans d5
      have g6 := (hbW.cell (p := ⟨W0.heap.size, 0, none⟩) HH2.out.lt).trans d6
      have gx := (hbW.cell (p := ⟨a, (k0 + i) * 4, none⟩) xlt).trans x0
      have ge := (hbW.cell (p := ⟨ro, 1, none⟩) (cell_lt e1)).trans e1
      have HBW : Hid (Below W.heap.size W w1) := hbW
      clear hb1 hbW d1 d2 d3 d4 d5 d6 f4 f5 f6 e1 x0
      have hki0 : (0 : Int) ≤ (k0 : Int) + (i : Int) := by omega
      have htn : ((k0 : Int) + (i : Int)).toNat = k0 + i := by omega
      obtain ⟨O, hO⟩ : ∃ O : ByteArray, O = ⟨o.toArray⟩ := ⟨_, rfl⟩
      have hOz : O.size = o.length := by rw [hO]; show o.toArray.size = _; simp
      rw [← hO]
      have HOE : Hid (∀ M, max n fr = M → O.extract (M - bg) O.size = ⟨x2.toArray⟩) := fun M hM => by
        rw [refExt_sub, hOz, hO, HS5.out, hM]
        show (⟨(Sk.sub o.toArray.toList (M - bg) o.length).toArray⟩ : ByteArray) = _
        rw [List.toList_toArray, Sk.sub_end]
      clear hO
      gi_wp2_with fail
      refine region_round (C := fun w' => w' = w1.drew) _ rfl (by kernel_rfl) (by kernel_rfl) (by kernel_rfl) rfl ?_
      repeat (quiet_step (fail))
      refine wpQuiet_nil ?_
      rintro w' rfl
      have v1 := HH1.out.below (HBW.out.mono HH1.out.low)
      have v2 := HH2.out.below HBW.out
      have q3 : w1.cell? ⟨w.heap.size + 1 + 1, 0, none⟩ = some (.int .i64 many) := v1.m.cell
      have q4 : w1.cell? ⟨w.heap.size + 1 + 1 + 1, 0, none⟩ = some (.bool false) := v1.b.cell
      have p4 : w1.frozen? ⟨w.heap.size + 1 + 1 + 1, 0, none⟩ = false := v1.b.free
      have p5 : w1.frozen? ⟨w.heap.size + 1 + 1 + 1 + 1, 0, none⟩ = false := v1.k.free
      have p6 := v2.free
      have ne1 : ¬ (W0.heap.size = w.heap.size + 1 + 1 + 1 + 1) := by omega
      have ne2 : ¬ (w.heap.size + 1 + 1 + 1 + 1 = W0.heap.size) := by omega
      have ne3 : ¬ (W0.heap.size = w.heap.size + 1 + 1 + 1) := by omega
      have ne4 : ¬ (w.heap.size + 1 + 1 + 1 = W0.heap.size) := by omega
      have ne5 : ¬ (W0.heap.size = w.heap.size + 1 + 1) := by omega
      have ne6 : ¬ (w.heap.size + 1 + 1 = W0.heap.size) := by omega
      clear v1 v2
      by_cases hnf : fr < n
      · have hni : (fr : Int) < (n : Int) := by omega
        have h6 : bg ≤ n := by omega
        have h7 : (0 : Int) ≤ (n : Int) - (bg : Int) := by omega
        have h8 : (n : Int) - (bg : Int) ≤ (O.size : Int) := by omega
        have hoe := HOE.out n (by omega)
        clear hOz
        by_cases hmm : i + 1 < many
        · have hmj : (i : Int) + 1 < (many : Int) := by omega
          gi_wp2_with fail
          obtain ⟨r1, r2, r3⟩ := fv_next (x := (i : Int) + 1) (y := (k0 : Int) + (i : Int) + 1) HH1.out HH2.out HZ0.out HBW.out (by omega) (by omega)
          exact ⟨r1, r2, r3, hmm⟩
        · have hmj : (many : Int) ≤ (i : Int) + 1 := by omega
          gi_wp2_with fail
          obtain ⟨r1, r2⟩ := fv_last (x := (i : Int) + 1) (y := (k0 : Int) + (i : Int) + 1) HH1.out HH2.out HZ0.out HBW.out (by omega) (by omega)
          exact ⟨r1, rfl, r2⟩
      · have hni : (n : Int) ≤ (fr : Int) := by omega
        have h6 : bg ≤ fr := by omega
        have h7 : (0 : Int) ≤ (fr : Int) - (bg : Int) := by omega
        have h8 : (fr : Int) - (bg : Int) ≤ (O.size : Int) := by omega
        have hoe := HOE.out fr (by omega)
        clear hOz
        by_cases hmm : i + 1 < many
        · have hmj : (i : Int) + 1 < (many : Int) := by omega
          gi_wp2_with fail
          obtain ⟨r1, r2, r3⟩ := fv_next (x := (i : Int) + 1) (y := (k0 : Int) + (i : Int) + 1) HH1.out HH2.out HZ0.out HBW.out (by omega) (by omega)
          exact ⟨r1, r2, r3, hmm⟩
        · have hmj : (many : Int) ≤ (i : Int) + 1 := by omega
          gi_wp2_with fail
          obtain ⟨r1, r2⟩ := fv_last (x := (i : Int) + 1) (y := (k0 : Int) + (i : Int) + 1) HH1.out HH2.out HZ0.out HBW.out (by omega) (by omega)
          exact ⟨r1, rfl, r2⟩
    case done =>
      rintro D W hD ⟨h1, h2, h3⟩ hK
      have d1 := h1.r.cell
      have d5 : W.cell? ⟨w.heap.size + 1 + 1 + 1 + 1, 0, none⟩ = some (.int .i64 ((k0 + cs.length : Nat) : Int)) := h1.k.cell
      have d4 : W.cell? ⟨w.heap.size + 1 + 1 + 1, 0, none⟩ = some (.bool false) := h1.b.cell
      have f4 : W.frozen? ⟨w.heap.size + 1 + 1 + 1, 0, none⟩ = false := h1.b.free
      have e1 := (h1.bel.cell (p := ⟨ro, 1, none⟩) hlt).trans c1
      have HW1 : Hid (FV w W ro (n : Int) many false (k0 + cs.length)) := h1
      have HKD : Hid (W.heap[D]? = some (.deferred (some []))) := hK
      clear h1 h2 hK hyl hstep
      generalize hcl : cs.length = cl at *
      rcases hend with hend | ⟨hend, why, jj, hub, hwhy⟩
      · have hen : ((k0 + cl : Nat) : Int) = (bs.length : Int) := by omega
        rw [hen] at d5
        go_wp2_with fail
        go_quiet (fail)
        go_wp2
        have hv := (HW1.out.below (below_drewN (Below.refl _ _) nq)).setB true
        have hKV : ((W.drewN nq).setCell ⟨w.heap.size + 3, 0, none⟩ (.bool true)).heap[D]? = some (.deferred (some [])) := (heap_setCell_ne _ ⟨w.heap.size + 3, 0, none⟩ _ D (by show D ≠ w.heap.size + 3; omega)).trans HKD.out
        refine ⟨by simp, .inl ⟨_, _, rfl, run_takeDeferred hKV, ?_⟩⟩
        exact ⟨_, results_box _ rfl (Var.fr hv.b (fr_putObj _ D _) (by omega)).cell, rfl, hv.bel.trans ((fr_putObj _ D _).below hv.bel.size (fun b hb => by omega))⟩
      · have hen : ((k0 + cl : Nat) : Int) < (bs.length : Int) := by omega
        have hup := fun W hW => refUpto_any W B' ro s _ bs d (k0 + cl) (HR.out.below (w' := W) hW) HG.out hs hl hend
        have HUP : Hid (∀ W, Below w.heap.size w W → Calls Tryd.prog 49 #[.pointer (some ⟨ro, 0, none⟩), .int .i64 ((k0 + cl : Nat) : Int)] W fun e w' => Below W.heap.size W w' ∧ e = .returned (.tuple #[.string ⟨#[]⟩, .int .i64 0, .int .i64 jj, .int .i64 why])) := fun W hW => (hup W hW).mono fun e w' ⟨h1, _, h3⟩ => ⟨h1, h3 why jj hub⟩
        clear hup hub
        have HEN : Hid (k0 + cl < bs.length) := hend
        generalize k0 + cl = kc at *
        have hne : ((kc : Int) == (bs.length : Int)) = false := by rw [beq_eq_false_iff_ne]; omega
        go_wp2_with fail
        go_quiet (fail)
        go_wp2_with fail
        refine (HUP.out _ (below_drewN HW1.out.bel _)).mono ?_
        rintro e w6 ⟨hb6, rfl⟩
        have hbw6 : Below W.heap.size W w6 := (below_drewN (Below.refl _ _) nq).trans hb6
        have hv0 := HW1.out.below (hbw6.mono HW1.out.low)
        have HV0 : Hid (FV w w6 ro (n : Int) many false kc) := hv0
        have HK6 : Hid (w6.heap[D]? = some (.deferred (some []))) := (hbw6.block D (Array.getElem?_eq_some_iff.1 HKD.out).1).trans HKD.out
        have t4 : w6.cell? ⟨w.heap.size + 1 + 1 + 1, 0, none⟩ = some (.bool false) := hv0.b.cell
        have u4 : w6.frozen? ⟨w.heap.size + 1 + 1 + 1, 0, none⟩ = false := hv0.b.free
        clear hb6 hbw6 hv0 d1 d4 d5 f4 e1
        rcases hwhy with rfl | rfl
        all_goals
          go_wp2
          have hv := HV0.out.setB true
          have hKV : (w6.setCell ⟨w.heap.size + 3, 0, none⟩ (.bool true)).heap[D]? = some (.deferred (some [])) := (heap_setCell_ne _ ⟨w.heap.size + 3, 0, none⟩ _ D (by show D ≠ w.heap.size + 3; omega)).trans HK6.out
          refine ⟨by simp, .inl ⟨_, _, rfl, run_takeDeferred hKV, ?_⟩⟩
          exact ⟨_, results_box _ rfl (Var.fr hv.b (fr_putObj _ D _) (by omega)).cell, rfl, hv.bel.trans ((fr_putObj _ D _).below hv.bel.size (fun b hb => by omega))⟩
    case stop =>
      rintro D c i W hD hi ⟨rfl, h2⟩ hK
      have d4 : W.cell? ⟨w.heap.size + 1 + 1 + 1, 0, none⟩ = some (.bool true) := h2.b.cell
      gi_wp2
      refine ⟨by simp, .inl ⟨_, _, rfl, run_takeDeferred hK, ?_⟩⟩
      have hpo : Below w.heap.size w (W.putObj D (.deferred none)) := h2.bel.trans ((fr_putObj W D _).below h2.bel.size (fun b hb => by omega))
      have hcD : (W.putObj D (.deferred none)).cell? ⟨w.heap.size + 1 + 1 + 1, 0, none⟩ = some (.bool true) := (Var.fr h2.b (fr_putObj W D _) (by omega)).cell
      exact ⟨_, results_box _ rfl hcD, rfl, hpo⟩
end Go.Proofs.YtafkpmjifgohcaaDoor
