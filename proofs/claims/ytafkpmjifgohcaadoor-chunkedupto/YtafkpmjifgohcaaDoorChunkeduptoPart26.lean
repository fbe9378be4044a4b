/- What Chunks does with each block.
What the function that Chunks gives yields: the chunks in their order. -/
import Derived.Test.YtafkpmjifgohcaaDoorChunkeduptoPart24
import Derived.Test.YtafkpmjifgohcaaDoorChunkeduptoPart25
namespace Go.Proofs.YtafkpmjifgohcaaDoor
open Go.RowKit Go.Shelf

attribute [local go_sem] Oper.semAt_some

set_option maxRecDepth 100000 in
set_option maxHeartbeats 40000000 in
/-- What is done with each block: below the first that is wanted nothing; else it is yielded. -/
theorem each_call (B g q1 q2 q4 q6 qy l n k p F0 fN m : Nat) (s : ByteArray) (v x : Value) (bs : List Sk.Blk) (d : Nat) (D : List UInt8) (w : World) (hP : PFile w B g s v bs d) (hn : n < bs.length) (hb : Bts w x D)
    (c1 : Var w q1 (.pointer (some ⟨g, 0, none⟩)) 32) (c2 : Var w q2 (.int .i64 p) 3) (c4 : Var w q4 (.int .i64 k) 3) (c6 : Var w q6 (.int .i64 F0) 3) (cy : Var w qy (.func (.yield l) #[] #[]) 100)
    (hfN : (Sk.bk bs n).frm = fN) (h1 : F0 ≤ fN) (h2 : k ≤ n → max p fN - F0 < D.length) (hp2 : fN ≤ 20000) (hD : D.length ≤ 20000) (Post : Ending → World → Prop)
    (hlow : n < k → Post (.returned (.bool true)) w)
    (hy : ∀ W, k ≤ n → Below w.heap.size w W → YieldAt Fence.wide m Tryd.prog l #[.int .i64 n, .string ⟨(D.drop (max p fN - F0)).toArray⟩] W fun e W' => ∃ b, e = .returned (.bool b) ∧ Post (.returned (.bool b)) W') :
    CallsIn Fence.wide (m + 1) Tryd.prog 55 #[.int .i64 n, x, .pointer (some ⟨q4, 0, none⟩), .pointer (some ⟨qy, 0, none⟩), .pointer (some ⟨q2, 0, none⟩), .pointer (some ⟨q1, 0, none⟩), .pointer (some ⟨q6, 0, none⟩)] w Post := by
  have d1 := c1.cell
  have d2 := c2.cell
  have d4 := c4.cell
  have d6 := c6.cell
  have dy := cy.cell
  obtain ⟨vo, vcap, rfl⟩ := hP.row.form
  obtain ⟨a, rfl, ha, hcl⟩ := hP.entry n hn
  have x0 := hcl 0 (by decide)
  have c0 := hP.cell 0
  simp at c0
  simp [Sk.cells6] at x0
  rw [hfN] at x0
  clear hcl hfN hP c1 c2 c4 c6 cy ha
  refine callsIn_of_wp Tryd.func55 rfl trivial ?_ rfl
  simp only [Tryd.ntmps55, List.size_toArray, List.length_cons, List.length_nil, Nat.reduceAdd, Nat.reduceSub, Array.replicate_succ, Array.replicate_zero, List.push_toArray, List.append_toArray, List.nil_append, List.cons_append]
  by_cases hk : n < k
  · have hk' : (n : Int) < (k : Int) := by omega
    gi_wp2
    exact hk
  · have hk' : (k : Int) ≤ (n : Int) := by omega
    have kn : (n : Int) < (bs.length : Int) := by omega
    have h3 := h2 (by omega)
    have hcells : ∃ gd xc, x = .slice (some ⟨gd, 0, none⟩) D.length xc ∧ D.length ≤ xc ∧ ∀ j (h : j < D.length), w.cell? ⟨gd, j, none⟩ = some (cellOf D[j]) := by
      rcases hb with ⟨_, e⟩ | ⟨gd, xc, e, hxc, _, _, _, hc⟩
      · rw [e] at h3; simp at h3
      · exact ⟨gd, xc, e, hxc, hc⟩
    obtain ⟨gd, xc, rfl, hxc, hcl⟩ := hcells
    have HY : Hid (∀ W, k ≤ n → Below w.heap.size w W → YieldAt Fence.wide m Tryd.prog l #[.int .i64 n, .string ⟨(D.drop (max p fN - F0)).toArray⟩] W fun e W' => ∃ b, e = .returned (.bool b) ∧ Post (.returned (.bool b)) W') := hy
    have HCL : Hid (∀ j (h : j < D.length), w.cell? ⟨gd, j, none⟩ = some (cellOf D[j])) := hcl
    clear hy hb hlow h2 hcl
    by_cases hpf : p < fN
    · have hM : max p fN = fN := by omega
      rw [hM] at h3 HY
      have b1 : (p : Int) < (fN : Int) := by omega
      have b2 : (0 : Int) ≤ (fN : Int) - F0 := by omega
      have b3 : (fN : Int) - F0 ≤ (D.length : Int) := by omega
      have b4 : (D.length : Int) ≤ (xc : Int) := by omega
      have b5 : ¬ (xc = fN - F0) := by omega
      have hwr : IntKind.i64.wrap ((fN : Int) - F0) = (fN : Int) - F0 := IntWalk.i64_in _ (by omega)
      have hsl : (D.drop (fN - F0)).length = D.length - (fN - F0) := List.length_drop
      have hcv : (convert 53 9 (.slice (some ⟨gd, fN - F0, none⟩) (D.length - (fN - F0)) (xc - (fN - F0)))).run Tryd.prog w.drew = .ok (.string ⟨(D.drop (fN - F0)).toArray⟩) w.drew := by
        have := run_convert_bytes_back (P := Tryd.prog) w.drew 53 9 5 ⟨gd, fN - F0, none⟩ (xc - (fN - F0)) (D.drop (fN - F0)) Tryd.underlying53 Tryd.underlying5 Tryd.underlying9 (fun j hj => by
          rw [Go.WideShapes.add_plain]
          refine (HCL.out (fN - F0 + j) (by omega)).trans ?_
          simp [cellOf])
        rw [hsl] at this
        exact this
      obtain ⟨fn, tmps, assign, body, hyr, hR⟩ := HY.out w.drew (by omega) (Below.refl _ _).drew
      have HR : Hid (RoundIn Fence.wide m Tryd.prog l fn tmps assign body w.drew fun e W' => ∃ b, e = .returned (.bool b) ∧ Post (.returned (.bool b)) W') := hR
      clear hR hsl HY HCL
      gi_wp2
      refine region_front (L := 19) (C := fun w' => w' = w.drew) _ (by kernel_rfl) (by kernel_rfl) rfl rfl (by kernel_rfl) rfl ?_
      simp only [List.take_succ_cons, List.take_zero]
      repeat (quiet_step (fail))
      refine wpQuiet_nil ?_
      rintro w' rfl
      refine wpAnyIn_ready (fuel := 1) (rs := [19]) (by kernel_rfl) (by simp) ?_
      refine AllReadyIn.cons rfl (fun K hK => ?_) AllReadyIn.nil
      go_simp
      refine HR.out.mono ?_
      rintro e W3 ⟨b, rfl, hpost⟩
      refine hK _ _ ?_
      clear hK
      refine wpAnyIn_ready (fuel := 0) (rs := [20]) (by kernel_rfl) (by simp) ?_
      refine AllReadyIn.cons rfl (fun K2 hK2 => ?_) AllReadyIn.nil
      go_simp
      refine hK2 _ _ (wpAnyIn_done (by kernel_rfl) ?_ _)
      clear hK2
      gi_wp2
      exact hpost
    · have hM : max p fN = p := by omega
      rw [hM] at h3 HY
      have b1 : (fN : Int) ≤ (p : Int) := by omega
      have h1p : F0 ≤ p := by omega
      have b2 : (0 : Int) ≤ (p : Int) - F0 := by omega
      have b3 : (p : Int) - F0 ≤ (D.length : Int) := by omega
      have b4 : (D.length : Int) ≤ (xc : Int) := by omega
      have b5 : ¬ (xc = p - F0) := by omega
      have hwr : IntKind.i64.wrap ((p : Int) - F0) = (p : Int) - F0 := IntWalk.i64_in _ (by omega)
      have hsl : (D.drop (p - F0)).length = D.length - (p - F0) := List.length_drop
      have hcv : (convert 53 9 (.slice (some ⟨gd, p - F0, none⟩) (D.length - (p - F0)) (xc - (p - F0)))).run Tryd.prog w.drew = .ok (.string ⟨(D.drop (p - F0)).toArray⟩) w.drew := by
        have := run_convert_bytes_back (P := Tryd.prog) w.drew 53 9 5 ⟨gd, p - F0, none⟩ (xc - (p - F0)) (D.drop (p - F0)) Tryd.underlying53 Tryd.underlying5 Tryd.underlying9 (fun j hj => by
          rw [Go.WideShapes.add_plain]
          refine (HCL.out (p - F0 + j) (by omega)).trans ?_
          simp [cellOf])
        rw [hsl] at this
        exact this
      obtain ⟨fn, tmps, assign, body, hyr, hR⟩ := HY.out w.drew (by omega) (Below.refl _ _).drew
      have HR : Hid (RoundIn Fence.wide m Tryd.prog l fn tmps assign body w.drew fun e W' => ∃ b, e = .returned (.bool b) ∧ Post (.returned (.bool b)) W') := hR
      clear hR hsl HY HCL
      gi_wp2
      refine region_front (L := 19) (C := fun w' => w' = w.drew) _ (by kernel_rfl) (by kernel_rfl) rfl rfl (by kernel_rfl) rfl ?_
      simp only [List.take_succ_cons, List.take_zero]
      repeat (quiet_step (fail))
      refine wpQuiet_nil ?_
      rintro w' rfl
      refine wpAnyIn_ready (fuel := 1) (rs := [19]) (by kernel_rfl) (by simp) ?_
      refine AllReadyIn.cons rfl (fun K hK => ?_) AllReadyIn.nil
      go_simp
      refine HR.out.mono ?_
      rintro e W3 ⟨b, rfl, hpost⟩
      refine hK _ _ ?_
      clear hK
      refine wpAnyIn_ready (fuel := 0) (rs := [20]) (by kernel_rfl) (by simp) ?_
      refine AllReadyIn.cons rfl (fun K2 hK2 => ?_) AllReadyIn.nil
      go_simp
      refine hK2 _ _ (wpAnyIn_done (by kernel_rfl) ?_ _)
      clear hK2
      gi_wp2
      exact hpost
end Go.Proofs.YtafkpmjifgohcaaDoor

namespace Go.Proofs.YtafkpmjifgohcaaDoor
open Go.RowKit Go.Shelf

def encC (x : Nat × List UInt8) : Array Value := #[.int .i64 x.1, .string ⟨x.2.toArray⟩]

/-- Where a loop's own variables lie, and what they are apart from. -/
structure Aside (X : Nat → Prop) (w : World) (g : Nat) (v : Value) (q1 q2 Bs : Nat) : Prop where
  lt : ∀ k, X k → k + 1 < w.heap.size
  g : ¬ X g ∧ g + 1 < w.heap.size
  v : ∀ k, v.ownBlock = some k → ¬ X k ∧ k + 1 < w.heap.size
  q1 : ¬ X q1 ∧ q1 + 1 < w.heap.size
  q2 : ¬ X q2 ∧ q2 + 1 < w.heap.size
  b : (∀ k, X k → Bs ≤ k) ∧ Bs + 1 ≤ w.heap.size

theorem Var.fr {w w' : World} {q : Nat} {x : Value} {t : TypeId} {X : Nat → Prop} (h : Var w q x t) (hf : Fr X w w') (hq : ¬ X q) : Var w' q x t := (hf.block q h.lt hq).trans h

theorem yields_out (B g q1 q2 : Nat) (s : ByteArray) (v : Value) (bs : List Sk.Blk) (d : Nat) (p : Int) (X : Nat → Prop) (w : World) (hP : PFile w B g s v bs d) (c1 : Var w q1 (.pointer (some ⟨g, 0, none⟩)) 32) (c2 : Var w q2 (.int .i64 p) 3) (hp : p < 0 ∨ (d : Int) ≤ p) :
    Yields Tryd.prog 53 #[.pointer (some ⟨q2, 0, none⟩), .pointer (some ⟨q1, 0, none⟩)] encC [] X w := by
  intro l J Jx _ hJ _ _ h0
  exact (chunks1_out B g q1 q2 l s v bs d p w hP c1 c2 hp).mono fun e W' ⟨h1, h2⟩ => ⟨h1, .inl (hJ 0 w W' h0 h2)⟩

theorem yields_in (B g q1 q2 k : Nat) (s : ByteArray) (v : Value) (bs : List Sk.Blk) (d p : Nat) (A : Nat → Addr) (Bs : Nat) (X : Nat → Prop) (w : World) (hP : PFile w B g s v bs d) (hG : Sk.Good s.data.toList bs d) (hs : s.size ≤ 65536) (hl : bs.length ≤ 20000) (c1 : Var w q1 (.pointer (some ⟨g, 0, none⟩)) 32) (c2 : Var w q2 (.int .i64 p) 3)
    (hk : k < bs.length ∧ (Sk.bk bs k).frm ≤ p ∧ p < (Sk.bk bs k).frm + (Sk.bk bs k).size) (hS : SentW w A Bs) (hA : Aside X w g v q1 q2 Bs) :
    Yields Tryd.prog 53 #[.pointer (some ⟨q2, 0, none⟩), .pointer (some ⟨q1, 0, none⟩)] encC (Sk.chunks s.data.toList bs k p) X w := by
  intro l J Jx hlw hJ hJx hY h0
  obtain ⟨k0, k1, k2⟩ := hk
  have hlf := Sk.lastF_le bs k
  have hfr := hG.lastF_fresh k k0
  have hlen := Sk.chunks_length (s := s.data.toList) (bs := bs) k p
  have hget := fun m D => Sk.chunks_get (s := s.data.toList) (bs := bs) (start := k) (p := p) (m := m) (D := D)
  obtain ⟨fi, hfi⟩ : ∃ fi, fi = Sk.lastF bs k := ⟨_, rfl⟩
  rw [← hfi] at hlf hfr hlen hget
  have hdat := hG.dat
  refine chunks1_any B g q1 q2 l k s v bs d p w hP hG hl c1 c2 ⟨k0, k1, k2⟩ _ ?_
  intro q4 q6 w2 hb2 hy2 h4 h6 hq4 hq6
  rw [← hfi] at h6 ⊢
  -- the blocks that may change
  obtain ⟨Z, hZ⟩ : ∃ Z : Nat → Prop, Z = fun b => X b ∨ b = l := ⟨_, rfl⟩
  have zlt : ∀ b, Z b → b < w.heap.size := fun b hb => by
    rw [hZ] at hb
    rcases hb with c | c
    · have := hA.lt b c; omega
    · omega
  have zB : ∀ b, Z b → Bs ≤ b := fun b hb => by
    rw [hZ] at hb
    rcases hb with c | c
    · exact hA.b.1 b c
    · have := hA.b.2; omega
  have zn : ∀ b, ¬ X b ∧ b + 1 < w.heap.size → ¬ Z b := fun b hb hz => by
    rw [hZ] at hz
    rcases hz with c | c
    · exact hb.1 c
    · omega
  have hsz2 := hb2.size
  have hP2 := hP.below hb2
  have c12 := c1.below hb2
  have c22 := c2.below hb2
  have keepP : ∀ wr, Fr Z w2 wr → PFile wr B g s v bs d := fun wr hf => hP2.kept hf.size (hf.block g hP2.lt (zn g hA.g)) (fun b hb => hf.block b (hP2.row.lt b hb) (zn b (hA.v b hb)))
  have keep1 : ∀ wr, Fr Z w2 wr → Var wr q1 (.pointer (some ⟨g, 0, none⟩)) 32 := fun wr hf => c12.fr hf (zn q1 hA.q1)
  have hS2 : SentW w2 A Bs := hS.below (hb2.mono (by have := hA.b.2; omega))
  have keepS : ∀ wr, Fr Z w2 wr → SentW wr A Bs := fun wr hf => hS2.below (hf.below (by have := hA.b.2; omega) zB)
  have zbel : ∀ a b, Fr Z a b → True := fun _ _ _ => trivial
  clear zbel
  -- what the loop keeps
  obtain ⟨JJ, hJJ⟩ : ∃ JJ : Nat → World → Value → Prop, JJ = fun m wr x => J (fi + m - k) wr ∧ Fr Z w2 wr ∧ ∀ b, x.ownBlock = some b → w2.heap.size ≤ b := ⟨_, rfl⟩
  have grow : ∀ m wr x w1 x', JJ m wr x → Gr wr x w1 x' → J (fi + m - k) w1 ∧ Fr Z w2 w1 ∧ ∀ b, x'.ownBlock = some b → w2.heap.size ≤ b := fun m wr x w1 x' h hg => by
    rw [hJJ] at h
    obtain ⟨h1, h2, h3⟩ := h
    have hs2 := h2.size
    refine ⟨hJ _ _ _ h1 (hg.below (by omega) (fun b hb => by have := h3 b hb; omega)), h2.then hg.fr (fun b hb1 hb2 => by have := h3 b hb2; omega), fun b hb => ?_⟩
    rcases hg.own with e | ⟨c, e, hc⟩
    · exact h3 b (e ▸ hb)
    · rw [e] at hb
      cases hb
      omega
  have step : ∀ a b c, Fr Z a b → Below b.heap.size b c → Fr Z a c := fun a b c h h' => h.then (below_fr h' Z) (fun _ _ h => h)
  have hlast : (bs.length : Int) - 1 = ((bs.length - 1 : Nat) : Int) := by omega
  rw [hlast]
  refine unpackEach_any B g s v bs d fi (bs.length - 1) A Bs 55 _ JJ _ w2 hG hs hl (by omega) (by omega) hfr (enters_of Tryd.func55 (by kernel_rfl) rfl) ?_ ?_ ?_ ?_ ?_ ?_
  · rw [hJJ]
    refine ⟨?_, Fr.refl _ _, fun b hb => by cases hb⟩
    rw [show fi + 0 - k = 0 by omega]
    exact hJ 0 w w2 h0 hb2
  · intro m wr x h
    rw [hJJ] at h
    exact ⟨keepP wr h.2.1, (keepS wr h.2.1).c5⟩
  · intro m wr x h _
    rw [hJJ] at h
    have hsr := h.2.1.size
    have hb := hA.b.2
    exact ⟨keepS wr h.2.1, by omega, fun b hb => by have := h.2.2 b hb; omega⟩
  · intro m wr x w1 x' D hm h hg hb hd
    obtain ⟨g1, g2, g3⟩ := grow m wr x w1 x' h hg
    have hdl := (hG.data hfr (m + 1) D (by omega) hd).2.1 (by omega)
    rw [show fi + (m + 1) - 1 = fi + m by omega] at hdl
    have hle := hG.le (fi + m) (by omega)
    have hfrm := hG.frm_le fi m (by omega)
    have hx' : ∀ b, x'.ownBlock = some b → ¬ Z b := fun b hb hz => by
      have := zlt b hz
      have := g3 b hb
      omega
    have key := each_call B g q1 q2 q4 q6 w.heap.size l (fi + m) k p (Sk.bk bs fi).frm (Sk.bk bs (fi + m)).frm 0 s v x' bs d D w1 (keepP w1 g2) (by omega) hb
      (keep1 w1 g2) (c22.fr g2 (zn q2 hA.q2)) (h4.fr g2 (fun hz => by have := zlt _ hz; omega)) (h6.fr g2 (fun hz => by have := zlt _ hz; omega)) (hy2.fr g2 (fun hz => by have := zlt _ hz; omega)) rfl hfrm ?_ (by omega) (by omega)
      (fun e W' => (e = .returned (.bool true) ∧ Bts W' x' D ∧ JJ (m + 1) W' x') ∨ (e = .returned (.bool false) ∧ (∃ r, Ending.returned Value.nilIface = .returned r) ∧ PFile W' B g s v bs d ∧ Var W' q1 (.pointer (some ⟨g, 0, none⟩)) 32 ∧ ∀ u, (∃ r, Ending.returned u = .returned r) ∧ (J (Sk.chunks s.data.toList bs k p).length W' ∨ ∃ i, i ≤ (Sk.chunks s.data.toList bs k p).length ∧ Jx i W'))) ?_ ?_
    · rw [show ((fi + m : Nat) : Int) = (fi : Int) + (m : Int) by omega] at key
      exact callsIn_wide.1 key
    · intro hkn
      have h5 : (Sk.bk bs k).frm + (Sk.bk bs k).size ≤ (Sk.bk bs (fi + m)).frm + (Sk.bk bs (fi + m)).size := by
        rcases Nat.lt_or_ge k (fi + m) with c | c
        · have h6 := hG.nxt k (by omega)
          have h7 := hG.frm_le (k + 1) (fi + m - (k + 1)) (by omega)
          rw [show k + 1 + (fi + m - (k + 1)) = fi + m by omega] at h7
          omega
        · rw [show k = fi + m by omega]
          exact Nat.le_refl _
      have h8 := hG.siz (fi + m) (by omega)
      omega
    · intro hlt
      refine .inl ⟨rfl, hb, ?_⟩
      rw [hJJ]
      rw [show fi + m - k = 0 by omega] at g1
      exact ⟨by rw [show fi + (m + 1) - k = 0 by omega]; exact g1, g2, g3⟩
    · intro W hkn hW
      have g4 : Fr Z w2 W := step _ _ _ g2 hW
      have gz := g2.size
      have g5 : J (fi + m - k) W := hJ _ _ _ g1 (hW.mono (by omega))
      have hc := hget m D hd (by omega) hkn
      refine (hY 0 (fi + m - k) _ W hc g5).mono ?_
      rintro e W' ⟨hh, hf⟩
      rw [← hZ] at hf
      have g6 : Fr Z w2 W' := g4.then hf (fun _ _ h => h)
      rcases hh with ⟨rfl, hj⟩ | ⟨rfl, hj⟩
      · refine ⟨true, rfl, .inl ⟨rfl, ?_, ?_⟩⟩
        · have hbW := hb.below hW
          exact hbW.kept hf.size (fun b hb' => hf.block b (hbW.lt b hb') (hx' b hb'))
        · rw [hJJ]
          exact ⟨by rw [show fi + (m + 1) - k = fi + m - k + 1 by omega]; exact hj, g6, g3⟩
      · refine ⟨false, rfl, .inr ⟨rfl, ⟨_, rfl⟩, keepP W' g6, keep1 W' g6, fun u => ⟨⟨_, rfl⟩, .inr ⟨fi + m - k + 1, ?_, hj⟩⟩⟩⟩
        have := (List.getElem?_eq_some_iff.1 hc).1
        omega
  · intro wr x D h hb hd
    rw [hJJ] at h
    obtain ⟨h1, h2, _⟩ := h
    refine ⟨⟨_, rfl⟩, keepP wr h2, keep1 wr h2, fun u => ⟨⟨_, rfl⟩, .inl ?_⟩⟩
    rw [show bs.length - 1 + 1 - fi = bs.length - fi by omega] at hd h1
    rw [hlen, Sk.goodN_of_good hd]
    exact h1
  · intro m wr x w1 y w3 vb why D hm h hd hu hg hb2' _
    obtain ⟨g1, g2, _⟩ := grow m wr x w1 y h hg
    have gz := g2.size
    have g3 : Fr Z w2 w3 := step _ _ _ g2 hb2'
    refine ⟨⟨_, rfl⟩, keepP w3 g3, keep1 w3 g3, fun u => ⟨⟨_, rfl⟩, .inl ?_⟩⟩
    have hgn := Sk.goodN_bad hd hu (bs.length - fi - m)
    rw [show m + (bs.length - fi - m) = bs.length - fi by omega] at hgn
    rw [hlen, hgn]
    exact hJ _ _ _ g1 (hb2'.mono (by omega))
end Go.Proofs.YtafkpmjifgohcaaDoor
