/- The law's own still: lists that hold their marks read as their owner wrote them.
Frames by the blocks that may have changed, and stores into a row.
What the second loop of the law's lists keeps, and its two steps.
The law's lists, walked.
The same for the law's ints: no block of its own beside.
The law's ints, walked. -/
import Derived.Test.YtafkpmjifgohcaaGreatDoorAlluptoPart3
import Derived.Test.YtafkpmjifgohcaaGreatDoorAlluptoPart10
import Derived.Test.YtafkpmjifgohcaaGreatDoorAlluptoPart2
namespace Go.Proofs.YtafkpmjifgohcaaGreatDoor
open Go.RowKit

/-- The law's struct in memory. -/
structure Lw (w : World) (b : Nat) (text : ByteArray) (vf vb vm vn vk : Value) (cnt : Nat) : Prop where
  blk : w.heap[b]? = some (.cells #[.string text, vf, vb, vm, vn, vk, .int .i64 cnt] 31 (0, 0))

theorem Lw.cell {w : World} {b : Nat} {text : ByteArray} {vf vb vm vn vk : Value} {cnt : Nat} (h : Lw w b text vf vb vm vn vk cnt) (j : Nat) : w.cell? ⟨b, j, none⟩ = (#[.string text, vf, vb, vm, vn, vk, .int .i64 cnt] : Array Value)[j]? := by
  simp [World.cell?, h.blk]
theorem Lw.free {w : World} {b : Nat} {text : ByteArray} {vf vb vm vn vk : Value} {cnt : Nat} (h : Lw w b text vf vb vm vn vk cnt) (j : Nat) : w.frozen? ⟨b, j, none⟩ = false := by
  simp [World.frozen?, h.blk]
theorem Lw.lt {w : World} {b : Nat} {text : ByteArray} {vf vb vm vn vk : Value} {cnt : Nat} (h : Lw w b text vf vb vm vn vk cnt) : b < w.heap.size := by
  rcases Nat.lt_or_ge b w.heap.size with h' | h'
  · exact h'
  · have := h.blk; simp [Array.getElem?_eq_none h'] at this

theorem rep1 (n j : Nat) (m : Int) (h : j < n) : (rep n (mk1 m))[j]? = some (.int .i64 m) := by
  induction n with
  | zero => omega
  | succ n ih =>
    rw [rep_succ]
    by_cases hj : j < n
    · rw [List.getElem?_append_left (by rw [rep_length]; simp [mk1]; omega)]
      exact ih hj
    · have e : j = n := by omega
      subst e
      rw [List.getElem?_append_right (by rw [rep_length]; simp [mk1])]
      simp [rep_length, mk1]

theorem rep4 (n j i : Nat) (m : Int) (h : j < n) (hi : i < 4) : (rep n (mk4 m))[j * 4 + i]? = (mk4 m)[i]? := by
  induction n with
  | zero => omega
  | succ n ih =>
    rw [rep_succ]
    by_cases hj : j < n
    · rw [List.getElem?_append_left (by rw [rep_length]; simp [mk4]; omega)]
      exact ih hj
    · have e : j = n := by omega
      subst e
      rw [List.getElem?_append_right (by rw [rep_length]; simp [mk4])]
      rw [rep_length, show (mk4 m).length = 4 from rfl, show j * 4 + i - j * 4 = i by omega]

set_option maxRecDepth 100000 in
set_option maxHeartbeats 4000000 in
theorem still_any (b : Nat) (text : ByteArray) (vf vb vm vn vk : Value) (cnt : Nat) (Lb : List Value) (Mb : List Int) (Ln : List Value) (Mn : List Int) (w : World) (hw : Lw w b text vf vb vm vn vk cnt) (hb : Pr w 4 mk4 vb vm Lb Mb) (hn : Pr w 1 mk1 vn vk Ln Mn)
    (hLb : Lb.length ≤ 1000000000) (hLn : Ln.length ≤ 1000000000) (hsz : ∀ v ∈ Lb ++ Ln, ∀ a n c, v = .slice a n c → n ≤ 1000000000) :
    Calls Tryz.prog 8 #[.pointer (some ⟨b, 0, none⟩)] w fun e w' => e = .returned (.bool true) ∧ Below w.heap.size w w' := by
  obtain ⟨an, cn, rfl⟩ := hn.ra.form
  obtain ⟨ak, ck, rfl⟩ := hn.rm.form
  obtain ⟨ab, cb, rfl⟩ := hb.ra.form
  obtain ⟨am, cm, rfl⟩ := hb.rm.form
  have d2 := hw.cell 2
  have d3 := hw.cell 3
  have d4 := hw.cell 4
  have d5 := hw.cell 5
  simp at d2 d3 d4 d5
  have hbl := hw.lt
  have HN : Hid (Pr w 1 mk1 (.slice an Ln.length cn) (.slice ak Ln.length ck) Ln Mn) := hn
  have HBB : Hid (Pr w 4 mk4 (.slice ab Lb.length cb) (.slice am Lb.length cm) Lb Mb) := hb
  have HSZ : Hid (∀ v ∈ Lb ++ Ln, ∀ a n c, v = .slice a n c → n ≤ 1000000000) := hsz
  clear hn hb hsz hw
  go_enter Tryz.func8, Tryz.ntmps8
  go_wp2
  go_loopw [3] (fun i wr => ∃ k q : Nat, k ≤ Ln.length ∧ i = .int .i64 k ∧ wr = w.drewN q) (fun i _ => Ln.length - (intOf i).toNat)
  case atStart => exact ⟨0, 0, by omega, rfl, rfl⟩
  case round =>
    obtain ⟨k, q, hk, rfl, rfl⟩ := hrel
    by_cases hlt : k < Ln.length
    · obtain ⟨gn, rfl⟩ := HN.out.ra.some_of (by omega)
      obtain ⟨gk, rfl⟩ := HN.out.rm.some_of (by omega)
      have hMl := HN.out.len
      obtain ⟨n, hR⟩ := HN.out.ent k hlt (by omega)
      obtain ⟨lo, lc, hl⟩ := hR.form
      have e1 : w.cell? ⟨gn, k, none⟩ = some (.slice lo n lc) := by rw [HN.out.ra.cell k hlt, hl]
      have e2 : w.cell? ⟨gk, k, none⟩ = some (.int .i64 Mn[k]) := by rw [HN.out.rm.cell k (by simp; omega)]; simp
      have hnb : n ≤ 1000000000 := HSZ.out _ (List.mem_append_right _ (List.getElem_mem hlt)) _ _ _ hl
      rw [hl] at hR
      have HR : Hid (Rw w 1 (.slice lo n lc) n (rep n (mk1 Mn[k]))) := hR
      generalize Mn[k] = m at e2 HR
      clear hl hR
      have kk : (k : Int) < (Ln.length : Int) := by omega
      go_wp2
      go_loopw [4] (fun i wr => ∃ j q : Nat, j ≤ n ∧ i = .int .i64 j ∧ wr = w.drewN q) (fun i _ => n - (intOf i).toNat)
      case atStart => exact ⟨0, q, by omega, rfl, rfl⟩
      case round =>
        obtain ⟨j, q1, hj, rfl, rfl⟩ := hrel
        by_cases hjn : j < n
        · obtain ⟨g, rfl⟩ := HR.out.some_of (by omega)
          have e3 : w.cell? ⟨g, j, none⟩ = some (.int .i64 m) := HR.out.cellAt j _ (rep1 n j m hjn)
          have jj : (j : Int) < (n : Int) := by omega
          go_wp2_with fail
          go_quiet (fail)
          go_wp2
          go_roundw
          case rel => exact ⟨j + 1, _, by omega, by go_num, rfl⟩
          case measure => simp [intOf]; omega
        · go_wp2
          go_roundw
          case rel => exact ⟨k + 1, _, by omega, by go_num, rfl⟩
          case measure => simp [intOf]; omega
    · clear HN
      go_wp2
      go_loopw [5] (fun i wr => ∃ k : Nat, k ≤ Lb.length ∧ i = .int .i64 k ∧ Below w.heap.size w wr) (fun i _ => Lb.length - (intOf i).toNat)
      case atStart => exact ⟨0, by omega, rfl, below_drewN (Below.refl _ _) q⟩
      case round =>
        obtain ⟨k2, hk2, rfl, hbel⟩ := hrel
        have HB : Hid (Below w.heap.size w wr) := hbel
        clear hbel
        have carry : ∀ g j v, g < w.heap.size → w.cell? ⟨g, j, none⟩ = some v → wr.cell? ⟨g, j, none⟩ = some v := fun g j v hg h => (HB.out.cell (p := ⟨g, j, none⟩) hg).trans h
        have D2 := carry _ _ _ hbl d2
        have D3 := carry _ _ _ hbl d3
        by_cases hlt2 : k2 < Lb.length
        · obtain ⟨gb, rfl⟩ := HBB.out.ra.some_of (by omega)
          obtain ⟨gm, rfl⟩ := HBB.out.rm.some_of (by omega)
          have hMl := HBB.out.len
          obtain ⟨n, hR⟩ := HBB.out.ent k2 hlt2 (by omega)
          obtain ⟨lo, lc, hl⟩ := hR.form
          have lgb := HBB.out.ra.lt gb rfl
          have lgm := HBB.out.rm.lt gm rfl
          have e1 : w.cell? ⟨gb, k2, none⟩ = some (.slice lo n lc) := by rw [HBB.out.ra.cell k2 hlt2, hl]
          have e2 : w.cell? ⟨gm, k2, none⟩ = some (.int .i64 Mb[k2]) := by rw [HBB.out.rm.cell k2 (by simp; omega)]; simp
          have hnb : n ≤ 1000000000 := HSZ.out _ (List.mem_append_left _ (List.getElem_mem hlt2)) _ _ _ hl
          rw [hl] at hR
          have HR : Hid (Rw w 4 (.slice lo n lc) n (rep n (mk4 Mb[k2]))) := hR
          generalize Mb[k2] = m at e2 HR
          clear hl hR
          have kk : (k2 : Int) < (Lb.length : Int) := by omega
          have E1 := carry _ _ _ lgb e1
          clear carry
          go_wp2
          obtain ⟨wo, rfl⟩ : ∃ wo : World, wo = wr := ⟨_, rfl⟩
          go_loopw [6] (fun i wr => ∃ j : Nat, j ≤ n ∧ i = .int .i64 j ∧ Below w.heap.size w wr) (fun i _ => n - (intOf i).toNat)
          case atStart => exact ⟨0, by omega, rfl, HB.out⟩
          case round =>
            obtain ⟨j, hj, rfl, hbel3⟩ := hrel
            have HB3 : Hid (Below w.heap.size w wr) := hbel3
            clear hbel3
            have carry : ∀ g j v, g < w.heap.size → w.cell? ⟨g, j, none⟩ = some v → wr.cell? ⟨g, j, none⟩ = some v := fun g j v hg h => (HB3.out.cell (p := ⟨g, j, none⟩) hg).trans h
            have D2' := carry _ _ _ hbl d2
            have D3' := carry _ _ _ hbl d3
            have E1' := carry _ _ _ lgb e1
            have E2' := carry _ _ _ lgm e2
            by_cases hjn : j < n
            · obtain ⟨g, rfl⟩ := HR.out.some_of (by omega)
              have lg := HR.out.lt g rfl
              have c0 := carry g _ _ lg (HR.out.cellAt (j * 4 + 0) _ (rep4 n j 0 m hjn (by decide)))
              have c1 := carry g _ _ lg (HR.out.cellAt (j * 4 + 1) _ (rep4 n j 1 m hjn (by decide)))
              have c2 := carry g _ _ lg (HR.out.cellAt (j * 4 + 2) _ (rep4 n j 2 m hjn (by decide)))
              have c3 := carry g _ _ lg (HR.out.cellAt (j * 4 + 3) _ (rep4 n j 3 m hjn (by decide)))
              have jj : (j : Int) < (n : Int) := by omega
              have hzs : w.heap.size ≤ wr.heap.size := HB3.out.size
              have l1 : b < wr.heap.size := by omega
              have l2 : gb < wr.heap.size := by omega
              have l3 : gm < wr.heap.size := by omega
              simp only [Nat.add_zero] at c0
              clear carry d2 d3 d4 d5 e1 e2 D2 D3 E1
              go_wp2_with fail
              go_quiet (fail)
              go_wp2
              go_roundw
              case rel => exact ⟨j + 1, by omega, by go_num, below_drewN (HB3.out.alloc HB3.out.size _) _⟩
              case measure => simp [intOf]; omega
            · clear carry
              go_wp2
              go_roundw
              case rel => exact ⟨k2 + 1, by omega, by go_num, HB3.out⟩
              case measure => simp [intOf]; omega
        · clear carry
          go_wp2
          go_ret
          exact ⟨rfl, HB.out⟩
end Go.Proofs.YtafkpmjifgohcaaGreatDoor

namespace Go.Proofs.YtafkpmjifgohcaaGreatDoor
open Go.RowKit


/-- A frame keeps a row whose array is not among what may have changed. -/
theorem Rw.fr {X : Nat → Prop} {w w' : World} {sz n : Nat} {v : Value} {xs : List Value} (h : Rw w sz v n xs) (hf : Fr X w w') (hx : ∀ k, v.ownBlock = some k → ¬ X k) : Rw w' sz v n xs :=
  h.kept hf.size fun k hk => hf.block k (h.lt k hk) (hx k hk)
theorem Pr.fr {X : Nat → Prop} {w w' : World} {sz : Nat} {mk : Int → List Value} {va vm : Value} {L : List Value} {M : List Int} (h : Pr w sz mk va vm L M) (hf : Fr X w w')
    (h1 : ∀ k, va.ownBlock = some k → ¬ X k) (h2 : ∀ k, vm.ownBlock = some k → ¬ X k) (h3 : ∀ v ∈ L, ∀ k, v.ownBlock = some k → ¬ X k) : Pr w' sz mk va vm L M :=
  h.kept hf.size X hf.block h1 h2 h3
theorem Lw.fr {X : Nat → Prop} {w w' : World} {b : Nat} {text : ByteArray} {vf vb vm vn vk : Value} {cnt : Nat} (h : Lw w b text vf vb vm vn vk cnt) (hf : Fr X w w') (hx : ¬ X b) : Lw w' b text vf vb vm vn vk cnt :=
  ⟨by rw [hf.block b h.lt hx]; exact h.blk⟩

/-- Stores into the struct. -/
theorem Lw.setText {w : World} {b : Nat} {text : ByteArray} {vf vb vm vn vk : Value} {cnt : Nat} (h : Lw w b text vf vb vm vn vk cnt) (t : ByteArray) : Lw (w.setCell ⟨b, 0, none⟩ (.string t)) b t vf vb vm vn vk cnt := by
  refine ⟨?_⟩
  show (w.heap.modify b _)[b]? = _
  rw [Array.getElem?_modify, if_pos rfl, h.blk]
  rfl
theorem Lw.setFiles {w : World} {b : Nat} {text : ByteArray} {vf vb vm vn vk : Value} {cnt : Nat} (h : Lw w b text vf vb vm vn vk cnt) (v : Value) : Lw (w.setCell ⟨b, 1, none⟩ v) b text v vb vm vn vk cnt := by
  refine ⟨?_⟩
  show (w.heap.modify b _)[b]? = _
  rw [Array.getElem?_modify, if_pos rfl, h.blk]
  rfl
theorem Lw.setBlocks {w : World} {b : Nat} {text : ByteArray} {vf vb vm vn vk : Value} {cnt : Nat} (h : Lw w b text vf vb vm vn vk cnt) (v : Value) : Lw (w.setCell ⟨b, 2, none⟩ v) b text vf v vm vn vk cnt := by
  refine ⟨?_⟩
  show (w.heap.modify b _)[b]? = _
  rw [Array.getElem?_modify, if_pos rfl, h.blk]
  rfl
theorem Lw.setBm {w : World} {b : Nat} {text : ByteArray} {vf vb vm vn vk : Value} {cnt : Nat} (h : Lw w b text vf vb vm vn vk cnt) (v : Value) : Lw (w.setCell ⟨b, 3, none⟩ v) b text vf vb v vn vk cnt := by
  refine ⟨?_⟩
  show (w.heap.modify b _)[b]? = _
  rw [Array.getElem?_modify, if_pos rfl, h.blk]
  rfl
theorem Lw.setNums {w : World} {b : Nat} {text : ByteArray} {vf vb vm vn vk : Value} {cnt : Nat} (h : Lw w b text vf vb vm vn vk cnt) (v : Value) : Lw (w.setCell ⟨b, 4, none⟩ v) b text vf vb vm v vk cnt := by
  refine ⟨?_⟩
  show (w.heap.modify b _)[b]? = _
  rw [Array.getElem?_modify, if_pos rfl, h.blk]
  rfl
theorem Lw.setNm {w : World} {b : Nat} {text : ByteArray} {vf vb vm vn vk : Value} {cnt : Nat} (h : Lw w b text vf vb vm vn vk cnt) (v : Value) : Lw (w.setCell ⟨b, 5, none⟩ v) b text vf vb vm vn v cnt := by
  refine ⟨?_⟩
  show (w.heap.modify b _)[b]? = _
  rw [Array.getElem?_modify, if_pos rfl, h.blk]
  rfl
theorem Lw.setCount {w : World} {b : Nat} {text : ByteArray} {vf vb vm vn vk : Value} {cnt : Nat} (h : Lw w b text vf vb vm vn vk cnt) (c : Nat) (i : Int) (hi : i = c) : Lw (w.setCell ⟨b, 6, none⟩ (.int .i64 i)) b text vf vb vm vn vk c := by
  subst hi
  refine ⟨?_⟩
  show (w.heap.modify b _)[b]? = _
  rw [Array.getElem?_modify, if_pos rfl, h.blk]
  rfl

/-- One element more is written over, from the row's beginning on. -/
theorem Rw.mark {w : World} {sz n g cap k : Nat} {X ys : List Value} (hX : X.length = sz) (h : Rw w sz (.slice (some ⟨g, 0, none⟩) n cap) n (rep k X ++ ys)) (hk : k < n) :
    Rw (w.setCells g (k * sz) X) sz (.slice (some ⟨g, 0, none⟩) n cap) n (rep (k + 1) X ++ ys.drop sz) := by
  have hl := h.1
  rw [List.length_append, rep_length, hX] at hl
  have hm : (k + 1) * sz ≤ n * sz := Nat.mul_le_mul_right _ hk
  rw [Nat.succ_mul] at hm
  have hc := h.cell
  rcases h.2 with ⟨e, _⟩ | ⟨g', cap', e, h1, hg, h2, h3, h4⟩
  · cases e
  · cases e
    have hcap : n * sz ≤ cap * sz := Nat.mul_le_mul_right _ h1
    refine ⟨?_, .inr ⟨g, cap, rfl, h1, by rw [size_setCells]; exact hg, fun j hj => World.isSome_setCells _ _ _ _ _ (h2 j hj), fun j hj => by rw [World.frozen?_setCells]; exact h3 j hj, fun j hj => ?_⟩⟩
    · rw [List.length_append, rep_length, hX, List.length_drop, Nat.succ_mul]; omega
    · have hj' : j < n * sz := by rw [List.length_append, rep_length, hX, List.length_drop, Nat.succ_mul] at hj; omega
      by_cases c1 : j < k * sz
      · rw [World.cell?_setCells_out _ _ _ _ _ (fun _ _ => .inl c1), hc j (by rw [List.length_append, rep_length, hX]; omega)]
        congr 1
        rw [List.getElem_append_left (by rw [rep_length, hX]; exact c1), List.getElem_append_left (by rw [rep_length, hX, Nat.succ_mul]; omega)]
        simp only [rep_succ]
        rw [List.getElem_append_left (by rw [rep_length, hX]; exact c1)]
      · by_cases c2 : j < k * sz + sz
        · have := World.cell?_setCells_in g X (k * sz) w (fun i hi => h2 _ (by omega)) (j - k * sz) (by omega)
          rw [show k * sz + (j - k * sz) = j by omega] at this
          rw [this]
          congr 1
          rw [List.getElem_append_left (by rw [rep_length, hX, Nat.succ_mul]; omega)]
          simp only [rep_succ]
          rw [List.getElem_append_right (by rw [rep_length, hX]; omega)]
          simp only [rep_length, hX]
        · rw [World.cell?_setCells_out _ _ _ _ _ (fun _ _ => .inr (by rw [hX]; show k * sz + sz ≤ j; omega)), hc j (by rw [List.length_append, rep_length, hX]; omega)]
          congr 1
          rw [List.getElem_append_right (by rw [rep_length, hX]; omega), List.getElem_append_right (by rw [rep_length, hX, Nat.succ_mul]; omega)]
          rw [List.getElem_drop]
          simp only [rep_length, hX, Nat.succ_mul]
          congr 1
          omega
end Go.Proofs.YtafkpmjifgohcaaGreatDoor

namespace Go.Proofs.YtafkpmjifgohcaaGreatDoor
open Go.RowKit

theorem drewN_below (w : World) (q : Nat) : Below w.heap.size w (w.drewN q) := below_drewN (Below.refl _ _) q

/-- The state of the loop: lc the present list (n elements, each holding the mark X), va, vm the rows, L, M the lists and marks that they hold; f puts the struct's block together. -/
structure LJ (sz : Nat) (mk : Int → List Value) (m : Int) (w : World) (b : Nat) (va0 vm0 l0 : Value) (S : World → Value → Value → Prop) (bx : Nat) (C : Obj) (wr : World) (n : Nat) (lc va vm : Value) (L : List Value) (M : List Int) : Prop where
  lw : S wr va vm
  bl : b < wr.heap.size
  pr : Pr wr sz mk va vm L M
  rw : Rw wr sz lc n (rep n (mk m))
  sh : ∀ v ∈ L, ∀ a k c, v = .slice a k c → v.ownBlock = lc.ownBlock → k ≤ n
  fr : Fr (fun k => k = b ∨ va0.ownBlock = some k ∨ vm0.ownBlock = some k ∨ l0.ownBlock = some k) w wr
  box : wr.heap[bx]? = some C
  a1 : va.ownBlock ≠ some b ∧ vm.ownBlock ≠ some b ∧ lc.ownBlock ≠ some b ∧ bx ≠ b
  a2 : ∀ k, va.ownBlock = some k → vm.ownBlock ≠ some k ∧ lc.ownBlock ≠ some k ∧ k ≠ bx
  a3 : ∀ k, vm.ownBlock = some k → lc.ownBlock ≠ some k ∧ k ≠ bx
  a4 : lc.ownBlock ≠ some bx
  a5 : ∀ v ∈ L, ∀ k, v.ownBlock = some k → k ≠ b ∧ va.ownBlock ≠ some k ∧ vm.ownBlock ≠ some k ∧ k ≠ bx
  o1 : ∀ k, va.ownBlock = some k → va0.ownBlock = some k ∨ w.heap.size ≤ k
  o2 : ∀ k, vm.ownBlock = some k → vm0.ownBlock = some k ∨ w.heap.size ≤ k
  o3 : ∀ k, lc.ownBlock = some k → l0.ownBlock = some k ∨ w.heap.size ≤ k

section
variable {sz : Nat} {mk : Int → List Value} {m : Int} {w : World} {b : Nat} {va0 vm0 l0 : Value} {S : World → Value → Value → Prop} {bx : Nat} {C : Obj} {wr : World} {n : Nat} {lc va vm : Value} {L : List Value} {M : List Int}

theorem LJ.bxlt (h : LJ sz mk m w b va0 vm0 l0 S bx C wr n lc va vm L M) : bx < wr.heap.size := by
  rcases Nat.lt_or_ge bx wr.heap.size with h' | h'
  · exact h'
  · have := h.box; simp [Array.getElem?_eq_none h'] at this

theorem LJ.entlt (h : LJ sz mk m w b va0 vm0 l0 S bx C wr n lc va vm L M) : ∀ v ∈ L, ∀ k, v.ownBlock = some k → k < wr.heap.size := fun v hv k hk => by
  obtain ⟨i, hi, rfl⟩ := List.getElem_of_mem hv
  obtain ⟨n', hn⟩ := h.pr.ent i hi (by have := h.pr.len; omega)
  exact hn.lt k hk

/-- New blocks alone. -/
theorem LJ.below (h : LJ sz mk m w b va0 vm0 l0 S bx C wr n lc va vm L M) {w' : World} (hb : Below wr.heap.size wr w') (hS : ∀ w1 w2 a c, S w1 a c → w2.heap[b]? = w1.heap[b]? → S w2 a c) : LJ sz mk m w b va0 vm0 l0 S bx C w' n lc va vm L M :=
  { h with
    lw := hS _ _ _ _ h.lw (hb.block b h.bl)
    bl := Nat.lt_of_lt_of_le h.bl hb.size
    pr := h.pr.fr (below_fr hb (fun _ => False)) (fun _ _ h => h) (fun _ _ h => h) (fun _ _ _ _ h => h)
    rw := h.rw.below hb
    fr := h.fr.then (below_fr hb (fun _ => False)) (fun _ _ (h : False) => h.elim)
    box := by rw [hb.block bx h.bxlt]; exact h.box }

/-- The list is one element longer. -/
theorem LJ.growL (h : LJ sz mk m w b va0 vm0 l0 S bx C wr n lc va vm L M) (hS : ∀ w1 w2 a c, S w1 a c → w2.heap[b]? = w1.heap[b]? → S w2 a c) {w' : World} {lc' : Value} (hr : Rw w' sz lc' (n + 1) (rep n (mk m) ++ mk m)) (hg : Gr wr lc w' lc') (hp : Pre wr lc n sz w') :
    LJ sz mk m w b va0 vm0 l0 S bx C w' (n + 1) lc' va vm L M := by
  have own : ∀ k, lc'.ownBlock = some k → lc.ownBlock = some k ∨ wr.heap.size ≤ k := fun k hk => by
    rcases hg.own with ho | ⟨g, ho, hgs⟩
    · exact .inl (ho.symm.trans hk)
    · rw [ho] at hk; cases hk; exact .inr hgs
  have hws := h.fr.size
  refine { lw := hS _ _ _ _ h.lw (hg.block b h.bl (fun e => h.a1.2.2.1 e.symm)), bl := Nat.lt_of_lt_of_le h.bl hg.size, pr := ?_, rw := by rw [rep_succ]; exact hr, sh := ?_, fr := ?_, box := by rw [hg.block bx h.bxlt (fun e => h.a4 e.symm)]; exact h.box, a1 := ?_, a2 := ?_, a3 := ?_, a4 := ?_, a5 := h.a5, o1 := h.o1, o2 := h.o2, o3 := ?_ }
  · refine ⟨h.pr.ra.other hg (fun k hk e => (h.a2 k hk).2.1 e.symm), h.pr.rm.other hg (fun k hk e => (h.a3 k hk).1 e.symm), fun i hi hi' => ?_⟩
    obtain ⟨k, hk⟩ := h.pr.ent i hi hi'
    obtain ⟨a, c, hv⟩ := hk.form
    exact ⟨k, hk.pre hg hp (fun e => h.sh _ (List.getElem_mem hi) a k c hv e)⟩
  · intro v hv a k c hvv e
    rcases hg.own with ho | ⟨g, ho, hgs⟩
    · have := h.sh v hv a k c hvv (e.trans ho); omega
    · have := h.entlt v hv g (e.trans ho); omega
  · refine h.fr.then hg.fr (fun k hk e => ?_)
    rcases h.o3 k e with h' | h'
    · exact .inr (.inr (.inr h'))
    · omega
  · refine ⟨h.a1.1, h.a1.2.1, fun e => ?_, h.a1.2.2.2⟩
    rcases own b e with h' | h'
    · exact h.a1.2.2.1 h'
    · have := h.bl; omega
  · intro k hk
    refine ⟨(h.a2 k hk).1, fun e => ?_, (h.a2 k hk).2.2⟩
    rcases own k e with h' | h'
    · exact (h.a2 k hk).2.1 h'
    · have := h.pr.ra.lt k hk; omega
  · intro k hk
    refine ⟨fun e => ?_, (h.a3 k hk).2⟩
    rcases own k e with h' | h'
    · exact (h.a3 k hk).1 h'
    · have := h.pr.rm.lt k hk; omega
  · intro e
    rcases own bx e with h' | h'
    · exact h.a4 h'
    · have := h.bxlt; omega
  · intro k hk
    rcases own k hk with h' | h'
    · exact h.o3 k h'
    · exact .inr (by omega)

/-- The list is put behind the others, its mark behind theirs: both rows grow, each is stored into the struct. -/
theorem LJ.add (h : LJ sz mk m w b va0 vm0 l0 S bx C wr n lc va vm L M) (hS : ∀ w1 w2 a c, S w1 a c → w2.heap[b]? = w1.heap[b]? → S w2 a c) {w1 w2 w3 w4 : World} {va' vm' : Value}
    (r1 : Rw w1 1 va' (L.length + 1) (L ++ [lc])) (g1 : Gr wr va w1 va') (f2 : Fr (fun k => k = b) w1 w2) (s2 : S w1 va vm → S w2 va' vm)
    (r3 : Rw w3 1 vm' (L.length + 1) (M.map (Value.int .i64) ++ [.int .i64 m])) (g3 : Gr w2 vm w3 vm') (f4 : Fr (fun k => k = b) w3 w4) (s4 : S w3 va' vm → S w4 va' vm') :
    LJ sz mk m w b va0 vm0 l0 S bx C w4 n lc va' vm' (L ++ [lc]) (M ++ [m]) := by
  have z1 := g1.size
  have z2 := f2.size
  have z3 := g3.size
  have z4 := f4.size
  have z0 := h.fr.size
  have ltb := h.bl
  have ownA : ∀ k, va'.ownBlock = some k → va.ownBlock = some k ∨ wr.heap.size ≤ k := fun k hk => by
    rcases g1.own with ho | ⟨g, ho, hgs⟩
    · exact .inl (ho.symm.trans hk)
    · rw [ho] at hk; cases hk; exact .inr hgs
  have ownM : ∀ k, vm'.ownBlock = some k → vm.ownBlock = some k ∨ w2.heap.size ≤ k := fun k hk => by
    rcases g3.own with ho | ⟨g, ho, hgs⟩
    · exact .inl (ho.symm.trans hk)
    · rw [ho] at hk; cases hk; exact .inr hgs
  have ltA : ∀ k, va'.ownBlock = some k → k < w1.heap.size := r1.lt
  have ltm : ∀ k, vm.ownBlock = some k → k < wr.heap.size := h.pr.rm.lt
  have nA : va'.ownBlock ≠ some b := fun e => by
    rcases ownA b e with h' | h'
    · exact h.a1.1 h'
    · omega
  have nM : vm'.ownBlock ≠ some b := fun e => by
    rcases ownM b e with h' | h'
    · exact h.a1.2.1 h'
    · omega
  have nAM : ∀ k, va'.ownBlock = some k → vm.ownBlock ≠ some k := fun k hk e => by
    rcases ownA k hk with h' | h'
    · exact (h.a2 k h').1 e
    · have := ltm k e; omega
  have fall : Fr (fun k => k = b ∨ va.ownBlock = some k ∨ vm.ownBlock = some k) wr w4 := by
    have e1 : Fr (fun k => k = b ∨ va.ownBlock = some k ∨ vm.ownBlock = some k) wr w1 := g1.fr.mono fun k hk => .inr (.inl hk)
    have e2 := e1.then f2 (fun k _ hk => .inl hk)
    have e3 := e2.then g3.fr (fun k _ hk => .inr (.inr hk))
    exact e3.then f4 (fun k _ hk => .inl hk)
  have rowA : Rw w4 1 va' (L.length + 1) (L ++ [lc]) :=
    ((r1.fr f2 (fun k hk e => nA (by rw [hk, e]))).fr g3.fr (fun k hk e => nAM k hk e)).fr f4 (fun k hk e => nA (by rw [hk, e]))
  have rowM : Rw w4 1 vm' (L.length + 1) (M.map (Value.int .i64) ++ [.int .i64 m]) := r3.fr f4 (fun k hk e => nM (by rw [hk, e]))
  have lcnot : ∀ k, lc.ownBlock = some k → ¬ (k = b ∨ va.ownBlock = some k ∨ vm.ownBlock = some k) := fun k hk e => by
    rcases e with rfl | e | e
    · exact h.a1.2.2.1 hk
    · exact (h.a2 k e).2.1 hk
    · exact (h.a3 k e).1 hk
  have rlc : Rw w4 sz lc n (rep n (mk m)) := h.rw.fr fall lcnot
  have entnot : ∀ v ∈ L, ∀ k, v.ownBlock = some k → ¬ (k = b ∨ va.ownBlock = some k ∨ vm.ownBlock = some k) := fun v hv k hk e => by
    have := h.a5 v hv k hk
    rcases e with e | e | e
    · exact this.1 e
    · exact this.2.1 e
    · exact this.2.2.1 e
  have sw2 : S w2 va' vm := s2 (hS _ _ _ _ h.lw (g1.block b ltb (fun e => h.a1.1 e.symm)))
  have sw4 : S w4 va' vm' := s4 (hS _ _ _ _ sw2 (g3.block b (by omega) (fun e => h.a1.2.1 e.symm)))
  refine { lw := sw4, bl := by omega, pr := ?_, rw := rlc, sh := ?_, fr := ?_, box := ?_, a1 := ⟨nA, nM, h.a1.2.2.1, h.a1.2.2.2⟩, a2 := ?_, a3 := ?_, a4 := h.a4, a5 := ?_, o1 := ?_, o2 := ?_, o3 := h.o3 }
  · refine Pr.more lc m rowA rowM h.pr.len (fun i hi hi' => ?_) ⟨n, rlc⟩
    obtain ⟨k, hk⟩ := h.pr.ent i hi hi'
    exact ⟨k, hk.fr fall (fun k' hk' => entnot _ (List.getElem_mem hi) k' hk')⟩
  · intro v hv a k c hvv e
    rcases List.mem_append.1 hv with hv | hv
    · exact h.sh v hv a k c hvv e
    · obtain rfl := List.mem_singleton.1 hv
      obtain ⟨a', c', hf⟩ := h.rw.form
      rw [hf] at hvv
      cases hvv
      exact Nat.le_refl _
  · refine h.fr.then fall (fun k hk e => ?_)
    rcases e with e | e | e
    · exact .inl e
    · rcases h.o1 k e with h' | h'
      · exact .inr (.inl h')
      · omega
    · rcases h.o2 k e with h' | h'
      · exact .inr (.inr (.inl h'))
      · omega
  · rw [fall.block bx h.bxlt (fun e => ?_)]
    · exact h.box
    · rcases e with e | e | e
      · exact h.a1.2.2.2 e
      · exact (h.a2 bx e).2.2 rfl
      · exact (h.a3 bx e).2 rfl
  · intro k hk
    refine ⟨fun e => ?_, fun e => ?_, ?_⟩
    · rcases ownM k e with h' | h'
      · exact nAM k hk h'
      · have := ltA k hk; omega
    · rcases ownA k hk with h' | h'
      · exact (h.a2 k h').2.1 e
      · have := h.rw.lt k e; omega
    · rcases ownA k hk with h' | h'
      · exact (h.a2 k h').2.2
      · have := h.bxlt; omega
  · intro k hk
    refine ⟨fun e => ?_, ?_⟩
    · rcases ownM k hk with h' | h'
      · exact (h.a3 k h').1 e
      · have := h.rw.lt k e; omega
    · rcases ownM k hk with h' | h'
      · exact (h.a3 k h').2
      · have := h.bxlt; omega
  · intro v hv k hk
    have lv : k < wr.heap.size := by
      rcases List.mem_append.1 hv with hv | hv
      · exact h.entlt v hv k hk
      · obtain rfl := List.mem_singleton.1 hv; exact h.rw.lt k hk
    have old : k ≠ b ∧ va.ownBlock ≠ some k ∧ vm.ownBlock ≠ some k ∧ k ≠ bx := by
      rcases List.mem_append.1 hv with hv | hv
      · exact h.a5 v hv k hk
      · obtain rfl := List.mem_singleton.1 hv
        exact ⟨fun e => h.a1.2.2.1 (by rw [hk, e]), fun e => (h.a2 k e).2.1 hk, fun e => (h.a3 k e).1 hk, fun e => h.a4 (by rw [hk, e])⟩
    refine ⟨old.1, fun e => ?_, fun e => ?_, old.2.2.2⟩
    · rcases ownA k e with h' | h'
      · exact old.2.1 h'
      · omega
    · rcases ownM k e with h' | h'
      · exact old.2.2.1 h'
      · omega
  · intro k hk
    rcases ownA k hk with h' | h'
    · exact h.o1 k h'
    · exact .inr (by omega)
  · intro k hk
    rcases ownM k hk with h' | h'
    · exact h.o2 k h'
    · exact .inr (by omega)
end
end Go.Proofs.YtafkpmjifgohcaaGreatDoor

namespace Go.Proofs.YtafkpmjifgohcaaGreatDoor
open Go.RowKit

theorem Lw.of_block {w1 w2 : World} {b : Nat} {text : ByteArray} {vf vb vm vn vk : Value} {cnt : Nat} (h : Lw w1 b text vf vb vm vn vk cnt) (e : w2.heap[b]? = w1.heap[b]?) : Lw w2 b text vf vb vm vn vk cnt := ⟨by rw [e]; exact h.blk⟩

theorem Tryz.infoSl : (Tryz.prog.info? 48).map (fun i => (i.zero, i.size, i.bytes)) = some (some (.slice none 0 0), 1, 24) := by kernel_rfl
theorem LJ.mid {sz : Nat} {mk : Int → List Value} {m : Int} {w : World} {b : Nat} {va0 vm0 l0 : Value} {S : World → Value → Value → Prop} {bx : Nat} {C : Obj} {wr : World} {n : Nat} {lc va vm : Value} {L : List Value} {M : List Int} (h : LJ sz mk m w b va0 vm0 l0 S bx C wr n lc va vm L M) {w1 w2 : World} {va' : Value} (g1 : Gr wr va w1 va') (f2 : Fr (fun k => k = b) w1 w2) : Rw w2 1 vm L.length (M.map (Value.int .i64)) :=
  (h.pr.rm.other g1 (fun k hk e => (h.a2 k e.symm).1 hk)).fr f2 (fun k hk e => h.a1.2.1 (by rw [hk, e]))

/-- How many lists were kept by then. -/
def kept4 (k : Nat) : Nat := if k ≤ 2 then k else if k ≤ 64 then 3 else 4

set_option maxRecDepth 100000 in
set_option maxHeartbeats 4000000 in
theorem lists_any (b : Nat) (text : ByteArray) (vf vb vm vn vk l : Value) (cnt n : Nat) (L : List Value) (M : List Int) (xs : List Value) (w : World) (hw : Lw w b text vf vb vm vn vk cnt) (hp : Pr w 4 mk4 vb vm L M) (hl : Rw w 4 l n xs)
    (p1 : vb.ownBlock ≠ some b ∧ vm.ownBlock ≠ some b ∧ l.ownBlock ≠ some b) (p2 : ∀ k, vb.ownBlock = some k → vm.ownBlock ≠ some k ∧ l.ownBlock ≠ some k) (p3 : ∀ k, vm.ownBlock = some k → l.ownBlock ≠ some k)
    (p4 : ∀ v ∈ L, ∀ k, v.ownBlock = some k → k ≠ b ∧ vb.ownBlock ≠ some k ∧ vm.ownBlock ≠ some k ∧ l.ownBlock ≠ some k) (hn : n ≤ 100000) (hc : cnt ≤ 1000000000) (hL : L.length ≤ 1000000000) :
    Calls Tryz.prog 25 #[.pointer (some ⟨b, 0, none⟩), l] w fun e w' => e = .returned (.tuple #[]) ∧ ∃ bx C nn lc vb' vm' L' M', LJ 4 mk4 (-((cnt : Int) + 1)) w b vb vm l (fun w1 a c => Lw w1 b text vf a c vn vk (cnt + 1)) bx C w' nn lc vb' vm' (L ++ L') (M ++ M') ∧ L'.length = 4 ∧ nn ≤ n + 65 ∧
      ∀ v ∈ L', (∀ k, v.ownBlock = some k → l.ownBlock = some k ∨ w.heap.size ≤ k) ∧ ∀ a k c, v = .slice a k c → k ≤ n + 65 := by
  obtain ⟨lo, lcap, rfl⟩ := hl.form
  obtain ⟨m, hm⟩ : ∃ m, m = -((cnt : Int) + 1) := ⟨_, rfl⟩
  rw [← hm]
  have hneg : -((cnt : Int) + 1) = m := hm.symm
  have hwm : IntKind.i64.wrap m = m := by rw [IntKind.wrap_i64]; omega
  clear hm
  have d6 := hw.cell 6
  have f6 := hw.free 6
  simp at d6
  have hbl := hw.lt
  have HW : Hid (Lw w b text vf vb vm vn vk cnt) := hw
  have HP : Hid (Pr w 4 mk4 vb vm L M) := hp
  have HL : Hid (Rw w 4 (.slice lo n lcap) n xs) := hl
  have P1 : Hid (vb.ownBlock ≠ some b ∧ vm.ownBlock ≠ some b ∧ (Value.slice lo n lcap).ownBlock ≠ some b) := p1
  have P2 : Hid (∀ k, vb.ownBlock = some k → vm.ownBlock ≠ some k ∧ (Value.slice lo n lcap).ownBlock ≠ some k) := p2
  have P3 : Hid (∀ k, vm.ownBlock = some k → (Value.slice lo n lcap).ownBlock ≠ some k) := p3
  have P4 : Hid (∀ v ∈ L, ∀ k, v.ownBlock = some k → k ≠ b ∧ vb.ownBlock ≠ some k ∧ vm.ownBlock ≠ some k ∧ (Value.slice lo n lcap).ownBlock ≠ some k) := p4
  clear hw hp hl p1 p2 p3 p4
  go_enter Tryz.func25, Tryz.ntmps25
  go_wp2_with fail
  have HW1 : Hid (Lw (w.setCell ⟨b, 6, none⟩ (.int .i64 ((cnt : Int) + 1))) b text vf vb vm vn vk (cnt + 1)) := HW.out.setCount (cnt + 1) _ (by omega)
  have HF1 : Hid (Fr (fun k => k = b) w (w.setCell ⟨b, 6, none⟩ (.int .i64 ((cnt : Int) + 1)))) := fr_setCell w ⟨b, 6, none⟩ _
  have hz1 : (w.setCell ⟨b, 6, none⟩ (.int .i64 ((cnt : Int) + 1))).heap.size = w.heap.size := by simp
  generalize w.setCell ⟨b, 6, none⟩ (.int .i64 ((cnt : Int) + 1)) = W1 at HW1 HF1 hz1 ⊢
  have HZ1 : Hid (W1.heap.size = w.heap.size) := hz1
  have e6 : W1.cell? ⟨b, 6, none⟩ = some (.int .i64 ((cnt : Int) + 1)) := by have := HW1.out.cell 6; simpa using this
  have hb1 := HW1.out.lt
  clear hz1 d6 f6
  refine (fun hrest : Hid ?P1 => ?main1) ?rest1
  case main1 =>
    go_region_held3 (fun w' => w'.cell? ⟨b, 6, none⟩ = some (.int .i64 ((cnt : Int) + 1))) (go_keep) (fail)
    all_goals exact hrest.out
  case rest1 =>
    unfold Hid
    have HB2 : Hid (Below W1.heap.size W1 ((W1.alloc (.cells #[.int .i64 m, .int .i64 m, .int .i64 0, .bool false] 61)).drew)) := ((Below.refl _ _).alloc (Nat.le_refl _) _).drew
    have HBX : Hid (((W1.alloc (.cells #[.int .i64 m, .int .i64 m, .int .i64 0, .bool false] 61)).drew).heap[W1.heap.size]? = some (.cells #[.int .i64 m, .int .i64 m, .int .i64 0, .bool false] 61 (0, 0))) := by
      show (W1.heap.push _)[W1.heap.size]? = _
      simp
    go_wp2_with fail
    generalize (W1.alloc (.cells #[.int .i64 m, .int .i64 m, .int .i64 0, .bool false] 61)).drew = W2 at HB2 HBX ⊢
    have HF2 : Hid (Fr (fun k => k = b) w W2) := HF1.out.then (below_fr HB2.out (fun k => k = b)) (fun _ _ h => h)
    have HW2 : Hid (Lw W2 b text vf vb vm vn vk (cnt + 1)) := HW1.out.of_block (HB2.out.block b hb1)
    have HL2 : Hid (Rw W2 4 (.slice lo n lcap) n xs) := HL.out.fr HF2.out (fun k hk e => P1.out.2.2 (by rw [hk, e]))
    have HP2 : Hid (Pr W2 4 mk4 vb vm L M) := HP.out.fr HF2.out (fun k hk e => P1.out.1 (by rw [hk, e])) (fun k hk e => P1.out.2.1 (by rw [hk, e])) (fun v hv k hk e => (P4.out v hv k hk).1 e)
    have hbx : w.heap.size ≤ W1.heap.size := Nat.le_of_eq HZ1.out.symm
    generalize W1.heap.size = bx at hb1 HBX HZ1 hbx HB2 ⊢
    clear e6 HW1 HF1 HZ1 HB2
    have hsl : 0 < n → ∃ g, lo = some ⟨g, 0, none⟩ := fun h => HL2.out.some_of h
    have HSL : Hid (0 < n → ∃ g, lo = some ⟨g, 0, none⟩) := hsl
    clear hsl
    have lbx : bx < W2.heap.size := by
      rcases Nat.lt_or_ge bx W2.heap.size with h | h
      · exact h
      · have := HBX.out; simp [Array.getElem?_eq_none h] at this
    go_loopw [5] (fun i wr => ∃ k : Nat, ∃ ys, k ≤ n ∧ i = .int .i64 k ∧ Rw wr 4 (.slice lo n lcap) n (rep k (mk4 m) ++ ys) ∧ Fr (fun k => (Value.slice lo n lcap).ownBlock = some k) W2 wr) (fun i _ => n - (intOf i).toNat)
    case atStart => exact ⟨0, xs, by omega, rfl, by simpa [rep] using HL2.out, Fr.refl _ _⟩
    case round =>
      obtain ⟨k, ys, hk, rfl, hR, hF⟩ := hrel
      have HR : Hid (Rw wr 4 (.slice lo n lcap) n (rep k (mk4 m) ++ ys)) := hR
      have HF : Hid (Fr (fun k => (Value.slice lo n lcap).ownBlock = some k) W2 wr) := hF
      clear hR hF
      by_cases hlt : k < n
      · obtain ⟨g, rfl⟩ := HSL.out (by omega)
        have hgx : g ≠ bx := fun e => by have := HL.out.lt g rfl; omega
        have bxs : wr.heap[bx]? = some (.cells #[.int .i64 m, .int .i64 m, .int .i64 0, .bool false] 61 (0, 0)) := by
          rw [HF.out.block bx lbx (fun e => hgx (by cases e; rfl))]; exact HBX.out
        have x0 : wr.cell? ⟨bx, 0, none⟩ = some (.int .i64 m) := by simp [World.cell?, bxs]
        have x1 : wr.cell? ⟨bx, 1, none⟩ = some (.int .i64 m) := by simp [World.cell?, bxs]
        have x2 : wr.cell? ⟨bx, 2, none⟩ = some (.int .i64 0) := by simp [World.cell?, bxs]
        have x3 : wr.cell? ⟨bx, 3, none⟩ = some (.bool false) := by simp [World.cell?, bxs]
        clear bxs
        obtain ⟨v0, y0, z0⟩ := HR.out.there (k * 4) (by omega)
        obtain ⟨v1, y1, z1⟩ := HR.out.there (k * 4 + 1) (by omega)
        obtain ⟨v2, y2, z2⟩ := HR.out.there (k * 4 + 2) (by omega)
        obtain ⟨v3, y3, z3⟩ := HR.out.there (k * 4 + 3) (by omega)
        have kk : (k : Int) < (n : Int) := by omega
        go_wp2
        go_roundw
        case rel =>
          refine ⟨k + 1, ys.drop 4, by omega, by go_num, HR.out.mark rfl hlt, ?_⟩
          exact HF.out.then (fr_setCells wr g (k * 4) (mk4 m)) (fun k' _ e => by rw [e]; rfl)
        case measure => simp [intOf]; omega
      · have HR2 : Hid (Rw wr 4 (.slice lo n lcap) n (rep n (mk4 m))) := by
          obtain rfl : k = n := by omega
          have hl := HR.out.1
          rw [List.length_append, rep_length, show (mk4 m).length = 4 from rfl] at hl
          have : ys = [] := List.length_eq_zero_iff.1 (by omega)
          rw [this, List.append_nil] at HR
          exact HR
        have hS : ∀ w1 w2 a c, (fun w1 a c => Lw w1 b text vf a c vn vk (cnt + 1)) w1 a c → w2.heap[b]? = w1.heap[b]? → (fun w1 a c => Lw w1 b text vf a c vn vk (cnt + 1)) w2 a c := fun w1 w2 a c h e => Lw.of_block h e
        have HS : Hid (∀ w1 w2 a c, (fun w1 a c => Lw w1 b text vf a c vn vk (cnt + 1)) w1 a c → w2.heap[b]? = w1.heap[b]? → (fun w1 a c => Lw w1 b text vf a c vn vk (cnt + 1)) w2 a c) := hS
        clear hS
        have HJ0 : Hid (LJ 4 mk4 m w b vb vm (.slice lo n lcap) (fun w1 a c => Lw w1 b text vf a c vn vk (cnt + 1)) bx (.cells #[.int .i64 m, .int .i64 m, .int .i64 0, .bool false] 61 (0, 0)) wr n (.slice lo n lcap) vb vm L M) := by
          have lX : ∀ k, (Value.slice lo n lcap).ownBlock = some k → k < w.heap.size := HL.out.lt
          exact
            { lw := HW2.out.of_block (HF.out.block b HW2.out.lt (fun e => P1.out.2.2 e))
              bl := Nat.lt_of_lt_of_le HW2.out.lt HF.out.size
              pr := HP2.out.fr HF.out (fun k hk e => (P2.out k hk).2 e) (fun k hk e => P3.out k hk e) (fun v hv k hk e => (P4.out v hv k hk).2.2.2 e)
              rw := HR2.out
              sh := fun v hv a k' c hvv e => by
                cases hlo : (Value.slice lo n lcap).ownBlock with
                | some g => exact absurd (hlo) (fun h => (P4.out v hv g (e.trans h)).2.2.2 h)
                | none =>
                  obtain ⟨i, hi, rfl⟩ := List.getElem_of_mem hv
                  obtain ⟨n', hn'⟩ := HP2.out.ent i hi (by have := HP2.out.len; omega)
                  rw [hlo] at e
                  rcases hn'.2 with ⟨e1, _⟩ | ⟨g, cap, e1, _⟩
                  · rw [e1] at hvv; cases hvv; omega
                  · rw [e1] at e; cases e
              fr := (HF2.out.mono (fun k h => .inl h)).then HF.out (fun k _ h => .inr (.inr (.inr h)))
              box := by rw [HF.out.block bx lbx (fun e => by have := lX bx e; omega)]; exact HBX.out
              a1 := ⟨P1.out.1, P1.out.2.1, P1.out.2.2, by omega⟩
              a2 := fun k hk => ⟨(P2.out k hk).1, (P2.out k hk).2, by have := HP.out.ra.lt k hk; omega⟩
              a3 := fun k hk => ⟨P3.out k hk, by have := HP.out.rm.lt k hk; omega⟩
              a4 := fun e => by have := lX bx e; omega
              a5 := fun v hv k hk => by
                have h4 := P4.out v hv k hk
                obtain ⟨i, hi, rfl⟩ := List.getElem_of_mem hv
                obtain ⟨n', hn'⟩ := HP.out.ent i hi (by have := HP.out.len; omega)
                have := hn'.lt k hk
                exact ⟨h4.1, h4.2.1, h4.2.2.1, by omega⟩
              o1 := fun k hk => .inl hk
              o2 := fun k hk => .inl hk
              o3 := fun k hk => .inl hk }
        clear HR HF HR2 HF2 HW2 HL2 HP2 HBX HSL
        go_wp2_with fail
        obtain ⟨wst, rfl⟩ : ∃ wst : World, wst = wr := ⟨_, rfl⟩
        go_loopw [1, 6] (fun lv i wr => ∃ k : Nat, ∃ vb' vm' L' M', k ≤ 65 ∧ i = .int .i64 k ∧ LJ 4 mk4 m w b vb vm (.slice lo n lcap) (fun w1 a c => Lw w1 b text vf a c vn vk (cnt + 1)) bx (.cells #[.int .i64 m, .int .i64 m, .int .i64 0, .bool false] 61 (0, 0)) wr (n + k) lv vb' vm' (L ++ L') (M ++ M') ∧ L'.length = kept4 k ∧
          ∀ v ∈ L', (∀ k, v.ownBlock = some k → (Value.slice lo n lcap).ownBlock = some k ∨ w.heap.size ≤ k) ∧ ∀ a k c, v = .slice a k c → k ≤ n + 65) (fun _ i _ => 65 - (intOf i).toNat)
        case atStart => exact ⟨0, vb, vm, [], [], by omega, rfl, by rw [List.append_nil, List.append_nil]; exact HJ0.out, rfl, fun v hv => by cases hv⟩
        case round =>
          obtain ⟨k, vb', vm', L', M', hk65, rfl, hJ, hLk, hnew⟩ := hrel
          clear HJ0
          obtain ⟨co, cc, rfl⟩ := hJ.rw.form
          obtain ⟨q, hq⟩ : ∃ q, q = (L ++ L').length := ⟨_, rfl⟩
          obtain ⟨bo, bc, hvb⟩ := hJ.pr.ra.form
          obtain ⟨mo, mc, hvm⟩ := hJ.pr.rm.form
          rw [← hq] at hvb hvm
          subst hvb; subst hvm
          have HQ : Hid ((L ++ L').length = q) := hq.symm
          have hq2 : q ≤ 1000000004 := by
            rw [hq, List.length_append, hLk]
            have : kept4 k ≤ 4 := by unfold kept4; split; omega; split <;> omega
            omega
          have HJ : Hid _ := hJ
          have c2 : wr.cell? ⟨b, 2, none⟩ = some (.slice bo q bc) := by have := hJ.lw.cell 2; simpa using this
          have hbl2 := hJ.bl
          have HK : Hid (L'.length = kept4 k) := hLk
          have HN : Hid (∀ v ∈ L', (∀ k, v.ownBlock = some k → (Value.slice lo n lcap).ownBlock = some k ∨ w.heap.size ≤ k) ∧ ∀ a k c, v = .slice a k c → k ≤ n + 65) := hnew
          clear hJ hLk hnew hq
          by_cases hend : k ≤ 64
          · have kk2 : (k : Int) ≤ 64 := by omega
            by_cases hadd : k < 3 ∨ k = 64
            · have HK2 : Hid (kept4 (k + 1) = kept4 k + 1) := by
                unfold Hid
                rcases hadd with h | rfl
                · unfold kept4; rw [if_pos (by omega : k ≤ 2)]; split; rfl; rw [if_pos (by omega)]; omega
                · rfl
              have HJa : Hid _ := HJ.out.below ((Below.refl _ _).alloc (Nat.le_refl _) (.cells #[.slice co (n + k) cc] 48)) HS.out
              have HRa : Hid (Rw (wr.alloc (.cells #[.slice co (n + k) cc] 48)) 1 (.slice bo q bc) q (L ++ L')) := by have := HJa.out.pr.ra; rw [HQ.out] at this; exact this
              have HSa : Hid (Src Tryz.prog 1 27 (.slice (some ⟨wr.heap.size, 0, none⟩) 1 1) 1 [.slice co (n + k) cc] (wr.alloc (.cells #[.slice co (n + k) cc] 48))) := by
                exact srcR_new wr 27 48 Tryz.underlying27 #[.slice co (n + k) cc] 1 1 rfl (by intro u hu; simp at hu; rw [hu]; rfl)
              have hc3 : (3 : Int) ≤ (k : Int) ∧ (k : Int) = 64 ∨ (k : Int) < 3 := by omega
              clear hb1 hbl hadd
              rcases hc3 with ⟨a4, a5⟩ | a4
              all_goals
                go_wp2_with (at_builtin; refine wpList_append_rw rfl (.tmp 50) (.tmp 52) 27 27 rfl 48 _ 1 24 Tryz.underlying27 Tryz.infoSl rfl (.slice bo q bc) (.slice (some ⟨wr.heap.size, 0, none⟩) 1 1) q 1 (L ++ L') [.slice co (n + k) cc] rfl rfl HRa.out HSa.out (by decide) (by omega) (by omega) ?_; intro g1 cap1 w1 hr1 hg1 hp1; have HR1 : Hid (Rw w1 1 (.slice (some ⟨g1, 0, none⟩) (q + 1) cap1) (q + 1) (L ++ L' ++ [.slice co (n + k) cc])) := hr1; have HG1 : Hid (Gr (wr.alloc (.cells #[.slice co (n + k) cc] 48)) (.slice bo q bc) w1 (.slice (some ⟨g1, 0, none⟩) (q + 1) cap1)) := hg1; have HW1 : Hid (Lw w1 b text vf (.slice bo q bc) (.slice mo q mc) vn vk (cnt + 1)) := HJa.out.lw.of_block (hg1.block b HJa.out.bl (fun e => HJa.out.a1.1 e.symm)); clear hr1 hg1 hp1; have hb1 := HW1.out.lt; have e2 : w1.cell? ⟨b, 2, none⟩ = some (.slice bo q bc) := by { have := HW1.out.cell 2; simpa using this }; have e2f := HW1.out.free 2)
                have HF2 : Hid (Fr (fun k => k = b) w1 (w1.setCell ⟨b, 2, none⟩ (.slice (some ⟨g1, 0, none⟩) (q + 1) cap1))) := fr_setCell w1 ⟨b, 2, none⟩ _
                have HW2 : Hid (Lw (w1.setCell ⟨b, 2, none⟩ (.slice (some ⟨g1, 0, none⟩) (q + 1) cap1)) b text vf (.slice (some ⟨g1, 0, none⟩) (q + 1) cap1) (.slice mo q mc) vn vk (cnt + 1)) := HW1.out.setBlocks _
                generalize w1.setCell ⟨b, 2, none⟩ (.slice (some ⟨g1, 0, none⟩) (q + 1) cap1) = W2 at HF2 HW2 ⊢
                clear e2 e2f hb1 c2
                have hb2 := HW2.out.lt
                have e3 : W2.cell? ⟨b, 3, none⟩ = some (.slice mo q mc) := by have := HW2.out.cell 3; simpa using this
                have e6 : W2.cell? ⟨b, 6, none⟩ = some (.int .i64 ((cnt : Int) + 1)) := by have := HW2.out.cell 6; simpa using this
                have HBb : Hid (Below W2.heap.size W2 ((W2.alloc (.cells #[.int .i64 m] 3)).drew)) := ((Below.refl _ _).alloc (Nat.le_refl _) _).drew
                have HFb : Hid (Fr (fun k => k = b) w1 ((W2.alloc (.cells #[.int .i64 m] 3)).drew)) := HF2.out.then (below_fr HBb.out (fun k => k = b)) (fun _ _ h => h)
                have HRb : Hid (Rw ((W2.alloc (.cells #[.int .i64 m] 3)).drew) 1 (.slice mo q mc) q ((M ++ M').map (Value.int .i64))) := by have := HJa.out.mid HG1.out HFb.out; rw [HQ.out] at this; exact this
                have HSb : Hid (Src Tryz.prog 1 28 (.slice (some ⟨W2.heap.size, 0, none⟩) 1 1) 1 [.int .i64 m] ((W2.alloc (.cells #[.int .i64 m] 3)).drew)) := by
                  exact srcR_new W2.drew 28 3 Tryz.underlying28 #[.int .i64 m] 1 1 rfl (by intro u hu; simp at hu; rw [hu]; rfl)
                have HWb : Hid (Lw ((W2.alloc (.cells #[.int .i64 m] 3)).drew) b text vf (.slice (some ⟨g1, 0, none⟩) (q + 1) cap1) (.slice mo q mc) vn vk (cnt + 1)) := HW2.out.of_block (HBb.out.block b hb2)
                have HNb : Hid ((Value.slice mo q mc).ownBlock ≠ some b) := HJa.out.a1.2.1
                go_region_law ((refine step_append_rw (by rfl) (.tmp 60) (.tmp 66) 28 28 (by rfl) 3 _ 1 8 Tryz.underlying28 Tryz.infoI (by rfl) (.slice mo q mc) (.slice (some ⟨W2.heap.size, 0, none⟩) 1 1) q 1 ((M ++ M').map (Value.int .i64)) [.int .i64 m] (by rfl) (by rfl) HRb.out HSb.out (by decide) (by omega) (by omega) ?_; intro g3 cap3 w3 hr3 hg3; have HR3 : Hid (Rw w3 1 (.slice (some ⟨g3, 0, none⟩) (q + 1) cap3) (q + 1) ((M ++ M').map (Value.int .i64) ++ [.int .i64 m])) := hr3; have HG3 : Hid (Gr ((W2.alloc (.cells #[.int .i64 m] 3)).drew) (.slice mo q mc) w3 (.slice (some ⟨g3, 0, none⟩) (q + 1) cap3)) := hg3; have HW3 : Hid (Lw w3 b text vf (.slice (some ⟨g1, 0, none⟩) (q + 1) cap1) (.slice mo q mc) vn vk (cnt + 1)) := HWb.out.of_block (hg3.block b HWb.out.lt (fun e => HNb.out e.symm)); clear hr3 hg3; have hb3 := HW3.out.lt; have e3 : w3.cell? ⟨b, 3, none⟩ = some (.slice mo q mc) := by { have := HW3.out.cell 3; simpa using this }; have e3f := HW3.out.free 3))
                all_goals
                  clear e3f e3 hb3
                  have HJ4 : Hid (LJ 4 mk4 m w b vb vm (.slice lo n lcap) (fun w1 a c => Lw w1 b text vf a c vn vk (cnt + 1)) bx (.cells #[.int .i64 m, .int .i64 m, .int .i64 0, .bool false] 61 (0, 0)) (w3.setCell ⟨b, 3, none⟩ (.slice (some ⟨g3, 0, none⟩) (q + 1) cap3)) (n + k) (.slice co (n + k) cc) (.slice (some ⟨g1, 0, none⟩) (q + 1) cap1) (.slice (some ⟨g3, 0, none⟩) (q + 1) cap3) (L ++ L' ++ [.slice co (n + k) cc]) (M ++ M' ++ [m])) :=
                    HJa.out.add HS.out (by rw [HQ.out]; exact HR1.out) HG1.out HFb.out (fun _ => HWb.out) (by rw [HQ.out]; exact HR3.out) HG3.out (fr_setCell w3 ⟨b, 3, none⟩ _) (fun _ => HW3.out.setBm _)
                  generalize w3.setCell ⟨b, 3, none⟩ (.slice (some ⟨g3, 0, none⟩) (q + 1) cap3) = W4 at HJ4 ⊢
                  clear hb2
                  have hb4 := HJ4.out.bl
                  have hx4 := HJ4.out.bxlt
                  have x0 : W4.cell? ⟨bx, 0, none⟩ = some (.int .i64 m) := by simp [World.cell?, HJ4.out.box]
                  have x1 : W4.cell? ⟨bx, 1, none⟩ = some (.int .i64 m) := by simp [World.cell?, HJ4.out.box]
                  have x2 : W4.cell? ⟨bx, 2, none⟩ = some (.int .i64 0) := by simp [World.cell?, HJ4.out.box]
                  have x3 : W4.cell? ⟨bx, 3, none⟩ = some (.bool false) := by simp [World.cell?, HJ4.out.box]
                  have HJ5 : Hid _ := HJ4.out.below ((Below.refl _ _).alloc (Nat.le_refl _) (.cells #[.int .i64 m, .int .i64 m, .int .i64 0, .bool false] 61)) HS.out
                  have HS5 : Hid (Src Tryz.prog 4 48 (.slice (some ⟨W4.heap.size, 0, none⟩) 1 1) 1 (mk4 m) (W4.alloc (.cells #[.int .i64 m, .int .i64 m, .int .i64 0, .bool false] 61))) := by
                    exact srcR_new W4 48 61 Tryz.underlying48 #[.int .i64 m, .int .i64 m, .int .i64 0, .bool false] 4 1 rfl (by intro u hu; simp at hu; rcases hu with rfl | rfl | rfl <;> rfl)
                  go_wp2_with (at_builtin; refine wpList_append_rw rfl (.tmp 70) (.tmp 72) 48 48 rfl 61 _ 4 32 Tryz.underlying48 Tryz.infoBl rfl (.slice co (n + k) cc) (.slice (some ⟨W4.heap.size, 0, none⟩) 1 1) (n + k) 1 (rep (n + k) (mk4 m)) (mk4 m) rfl rfl HJ5.out.rw HS5.out (by decide) (by omega) (by omega) ?_; intro g5 cap5 w5 hr5 hg5 hp5; have HJ6 : Hid _ := HJ5.out.growL HS.out hr5 hg5 hp5; clear hr5 hg5 hp5)
                  go_roundw
                  case rel =>
                    refine ⟨k + 1, _, _, L' ++ [.slice co (n + k) cc], M' ++ [m], by omega, by go_num, by rw [← List.append_assoc, ← List.append_assoc]; exact HJ6.out, by rw [List.length_append, HK.out, HK2.out]; rfl, fun v hv => ?_⟩
                    rcases List.mem_append.1 hv with hv | hv
                    · exact HN.out v hv
                    · rw [List.mem_singleton.1 hv]
                      exact ⟨fun k hk => HJa.out.o3 k hk, fun a k' c e => by cases e; omega⟩
                  case measure => simp [intOf]; omega
            · have HK2 : Hid (kept4 (k + 1) = kept4 k) := by
                unfold Hid kept4
                rw [if_neg (by omega), if_pos (by omega), if_neg (by omega), if_pos (by omega)]
              have a4 : ¬ (k : Int) < 3 := by omega
              have a5 : ¬ (k : Int) = 64 := by omega
              have HJ4 := HJ
              clear hb1 hbl hadd c2
              have hb4 := HJ4.out.bl
              have hx4 := HJ4.out.bxlt
              have x0 : wr.cell? ⟨bx, 0, none⟩ = some (.int .i64 m) := by simp [World.cell?, HJ4.out.box]
              have x1 : wr.cell? ⟨bx, 1, none⟩ = some (.int .i64 m) := by simp [World.cell?, HJ4.out.box]
              have x2 : wr.cell? ⟨bx, 2, none⟩ = some (.int .i64 0) := by simp [World.cell?, HJ4.out.box]
              have x3 : wr.cell? ⟨bx, 3, none⟩ = some (.bool false) := by simp [World.cell?, HJ4.out.box]
              have HJ5 : Hid _ := HJ4.out.below ((Below.refl _ _).alloc (Nat.le_refl _) (.cells #[.int .i64 m, .int .i64 m, .int .i64 0, .bool false] 61)) HS.out
              have HS5 : Hid (Src Tryz.prog 4 48 (.slice (some ⟨wr.heap.size, 0, none⟩) 1 1) 1 (mk4 m) (wr.alloc (.cells #[.int .i64 m, .int .i64 m, .int .i64 0, .bool false] 61))) := by
                exact srcR_new wr 48 61 Tryz.underlying48 #[.int .i64 m, .int .i64 m, .int .i64 0, .bool false] 4 1 rfl (by intro u hu; simp at hu; rcases hu with rfl | rfl | rfl <;> rfl)
              go_wp2_with (at_builtin; refine wpList_append_rw rfl (.tmp 70) (.tmp 72) 48 48 rfl 61 _ 4 32 Tryz.underlying48 Tryz.infoBl rfl (.slice co (n + k) cc) (.slice (some ⟨wr.heap.size, 0, none⟩) 1 1) (n + k) 1 (rep (n + k) (mk4 m)) (mk4 m) rfl rfl HJ5.out.rw HS5.out (by decide) (by omega) (by omega) ?_; intro g5 cap5 w5 hr5 hg5 hp5; have HJ6 : Hid _ := HJ5.out.growL HS.out hr5 hg5 hp5; clear hr5 hg5 hp5)
              go_roundw
              case rel => exact ⟨k + 1, _, _, L', M', by omega, by go_num, HJ6.out, by rw [HK.out, HK2.out], HN.out⟩
              case measure => simp [intOf]; omega
          · have kk : ¬ (k : Int) ≤ 64 := by omega
            go_wp2_with fail
            go_end0
            obtain rfl : k = 65 := by omega
            exact ⟨rfl, bx, _, n + 65, _, _, _, L', ⟨M', HJ.out⟩, by rw [HK.out]; rfl, by omega, HN.out⟩
end Go.Proofs.YtafkpmjifgohcaaGreatDoor

namespace Go.Proofs.YtafkpmjifgohcaaGreatDoor
open Go.RowKit


/-- The state of the loop: lc the present list (n elements, each holding the mark X), va, vm the rows, L, M the lists and marks that they hold; f puts the struct's block together. -/
structure LI (sz : Nat) (mk : Int → List Value) (m : Int) (w : World) (b : Nat) (va0 vm0 l0 : Value) (S : World → Value → Value → Prop) (wr : World) (n : Nat) (lc va vm : Value) (L : List Value) (M : List Int) : Prop where
  lw : S wr va vm
  bl : b < wr.heap.size
  pr : Pr wr sz mk va vm L M
  rw : Rw wr sz lc n (rep n (mk m))
  sh : ∀ v ∈ L, ∀ a k c, v = .slice a k c → v.ownBlock = lc.ownBlock → k ≤ n
  fr : Fr (fun k => k = b ∨ va0.ownBlock = some k ∨ vm0.ownBlock = some k ∨ l0.ownBlock = some k) w wr
  a1 : va.ownBlock ≠ some b ∧ vm.ownBlock ≠ some b ∧ lc.ownBlock ≠ some b ∧ True
  a2 : ∀ k, va.ownBlock = some k → vm.ownBlock ≠ some k ∧ lc.ownBlock ≠ some k ∧ True
  a3 : ∀ k, vm.ownBlock = some k → lc.ownBlock ≠ some k ∧ True
  a5 : ∀ v ∈ L, ∀ k, v.ownBlock = some k → k ≠ b ∧ va.ownBlock ≠ some k ∧ vm.ownBlock ≠ some k ∧ True
  o1 : ∀ k, va.ownBlock = some k → va0.ownBlock = some k ∨ w.heap.size ≤ k
  o2 : ∀ k, vm.ownBlock = some k → vm0.ownBlock = some k ∨ w.heap.size ≤ k
  o3 : ∀ k, lc.ownBlock = some k → l0.ownBlock = some k ∨ w.heap.size ≤ k

section
variable {sz : Nat} {mk : Int → List Value} {m : Int} {w : World} {b : Nat} {va0 vm0 l0 : Value} {S : World → Value → Value → Prop} {wr : World} {n : Nat} {lc va vm : Value} {L : List Value} {M : List Int}

theorem LI.entlt (h : LI sz mk m w b va0 vm0 l0 S wr n lc va vm L M) : ∀ v ∈ L, ∀ k, v.ownBlock = some k → k < wr.heap.size := fun v hv k hk => by
  obtain ⟨i, hi, rfl⟩ := List.getElem_of_mem hv
  obtain ⟨n', hn⟩ := h.pr.ent i hi (by have := h.pr.len; omega)
  exact hn.lt k hk

/-- New blocks alone. -/
theorem LI.below (h : LI sz mk m w b va0 vm0 l0 S wr n lc va vm L M) {w' : World} (hb : Below wr.heap.size wr w') (hS : ∀ w1 w2 a c, S w1 a c → w2.heap[b]? = w1.heap[b]? → S w2 a c) : LI sz mk m w b va0 vm0 l0 S w' n lc va vm L M :=
  { h with
    lw := hS _ _ _ _ h.lw (hb.block b h.bl)
    bl := Nat.lt_of_lt_of_le h.bl hb.size
    pr := h.pr.fr (below_fr hb (fun _ => False)) (fun _ _ h => h) (fun _ _ h => h) (fun _ _ _ _ h => h)
    rw := h.rw.below hb
    fr := h.fr.then (below_fr hb (fun _ => False)) (fun _ _ (h : False) => h.elim) }

/-- The list is one element longer. -/
theorem LI.growL (h : LI sz mk m w b va0 vm0 l0 S wr n lc va vm L M) (hS : ∀ w1 w2 a c, S w1 a c → w2.heap[b]? = w1.heap[b]? → S w2 a c) {w' : World} {lc' : Value} (hr : Rw w' sz lc' (n + 1) (rep n (mk m) ++ mk m)) (hg : Gr wr lc w' lc') (hp : Pre wr lc n sz w') :
    LI sz mk m w b va0 vm0 l0 S w' (n + 1) lc' va vm L M := by
  have own : ∀ k, lc'.ownBlock = some k → lc.ownBlock = some k ∨ wr.heap.size ≤ k := fun k hk => by
    rcases hg.own with ho | ⟨g, ho, hgs⟩
    · exact .inl (ho.symm.trans hk)
    · rw [ho] at hk; cases hk; exact .inr hgs
  have hws := h.fr.size
  refine { lw := hS _ _ _ _ h.lw (hg.block b h.bl (fun e => h.a1.2.2.1 e.symm)), bl := Nat.lt_of_lt_of_le h.bl hg.size, pr := ?_, rw := by rw [rep_succ]; exact hr, sh := ?_, fr := ?_, a1 := ?_, a2 := ?_, a3 := ?_, a5 := h.a5, o1 := h.o1, o2 := h.o2, o3 := ?_ }
  · refine ⟨h.pr.ra.other hg (fun k hk e => (h.a2 k hk).2.1 e.symm), h.pr.rm.other hg (fun k hk e => (h.a3 k hk).1 e.symm), fun i hi hi' => ?_⟩
    obtain ⟨k, hk⟩ := h.pr.ent i hi hi'
    obtain ⟨a, c, hv⟩ := hk.form
    exact ⟨k, hk.pre hg hp (fun e => h.sh _ (List.getElem_mem hi) a k c hv e)⟩
  · intro v hv a k c hvv e
    rcases hg.own with ho | ⟨g, ho, hgs⟩
    · have := h.sh v hv a k c hvv (e.trans ho); omega
    · have := h.entlt v hv g (e.trans ho); omega
  · refine h.fr.then hg.fr (fun k hk e => ?_)
    rcases h.o3 k e with h' | h'
    · exact .inr (.inr (.inr h'))
    · omega
  · refine ⟨h.a1.1, h.a1.2.1, fun e => ?_, h.a1.2.2.2⟩
    rcases own b e with h' | h'
    · exact h.a1.2.2.1 h'
    · have := h.bl; omega
  · intro k hk
    refine ⟨(h.a2 k hk).1, fun e => ?_, (h.a2 k hk).2.2⟩
    rcases own k e with h' | h'
    · exact (h.a2 k hk).2.1 h'
    · have := h.pr.ra.lt k hk; omega
  · intro k hk
    refine ⟨fun e => ?_, (h.a3 k hk).2⟩
    rcases own k e with h' | h'
    · exact (h.a3 k hk).1 h'
    · have := h.pr.rm.lt k hk; omega
  · intro k hk
    rcases own k hk with h' | h'
    · exact h.o3 k h'
    · exact .inr (by omega)

/-- The list is put behind the others, its mark behind theirs: both rows grow, each is stored into the struct. -/
theorem LI.add (h : LI sz mk m w b va0 vm0 l0 S wr n lc va vm L M) (hS : ∀ w1 w2 a c, S w1 a c → w2.heap[b]? = w1.heap[b]? → S w2 a c) {w1 w2 w3 w4 : World} {va' vm' : Value}
    (r1 : Rw w1 1 va' (L.length + 1) (L ++ [lc])) (g1 : Gr wr va w1 va') (f2 : Fr (fun k => k = b) w1 w2) (s2 : S w1 va vm → S w2 va' vm)
    (r3 : Rw w3 1 vm' (L.length + 1) (M.map (Value.int .i64) ++ [.int .i64 m])) (g3 : Gr w2 vm w3 vm') (f4 : Fr (fun k => k = b) w3 w4) (s4 : S w3 va' vm → S w4 va' vm') :
    LI sz mk m w b va0 vm0 l0 S w4 n lc va' vm' (L ++ [lc]) (M ++ [m]) := by
  have z1 := g1.size
  have z2 := f2.size
  have z3 := g3.size
  have z4 := f4.size
  have z0 := h.fr.size
  have ltb := h.bl
  have ownA : ∀ k, va'.ownBlock = some k → va.ownBlock = some k ∨ wr.heap.size ≤ k := fun k hk => by
    rcases g1.own with ho | ⟨g, ho, hgs⟩
    · exact .inl (ho.symm.trans hk)
    · rw [ho] at hk; cases hk; exact .inr hgs
  have ownM : ∀ k, vm'.ownBlock = some k → vm.ownBlock = some k ∨ w2.heap.size ≤ k := fun k hk => by
    rcases g3.own with ho | ⟨g, ho, hgs⟩
    · exact .inl (ho.symm.trans hk)
    · rw [ho] at hk; cases hk; exact .inr hgs
  have ltA : ∀ k, va'.ownBlock = some k → k < w1.heap.size := r1.lt
  have ltm : ∀ k, vm.ownBlock = some k → k < wr.heap.size := h.pr.rm.lt
  have nA : va'.ownBlock ≠ some b := fun e => by
    rcases ownA b e with h' | h'
    · exact h.a1.1 h'
    · omega
  have nM : vm'.ownBlock ≠ some b := fun e => by
    rcases ownM b e with h' | h'
    · exact h.a1.2.1 h'
    · omega
  have nAM : ∀ k, va'.ownBlock = some k → vm.ownBlock ≠ some k := fun k hk e => by
    rcases ownA k hk with h' | h'
    · exact (h.a2 k h').1 e
    · have := ltm k e; omega
  have fall : Fr (fun k => k = b ∨ va.ownBlock = some k ∨ vm.ownBlock = some k) wr w4 := by
    have e1 : Fr (fun k => k = b ∨ va.ownBlock = some k ∨ vm.ownBlock = some k) wr w1 := g1.fr.mono fun k hk => .inr (.inl hk)
    have e2 := e1.then f2 (fun k _ hk => .inl hk)
    have e3 := e2.then g3.fr (fun k _ hk => .inr (.inr hk))
    exact e3.then f4 (fun k _ hk => .inl hk)
  have rowA : Rw w4 1 va' (L.length + 1) (L ++ [lc]) :=
    ((r1.fr f2 (fun k hk e => nA (by rw [hk, e]))).fr g3.fr (fun k hk e => nAM k hk e)).fr f4 (fun k hk e => nA (by rw [hk, e]))
  have rowM : Rw w4 1 vm' (L.length + 1) (M.map (Value.int .i64) ++ [.int .i64 m]) := r3.fr f4 (fun k hk e => nM (by rw [hk, e]))
  have lcnot : ∀ k, lc.ownBlock = some k → ¬ (k = b ∨ va.ownBlock = some k ∨ vm.ownBlock = some k) := fun k hk e => by
    rcases e with rfl | e | e
    · exact h.a1.2.2.1 hk
    · exact (h.a2 k e).2.1 hk
    · exact (h.a3 k e).1 hk
  have rlc : Rw w4 sz lc n (rep n (mk m)) := h.rw.fr fall lcnot
  have entnot : ∀ v ∈ L, ∀ k, v.ownBlock = some k → ¬ (k = b ∨ va.ownBlock = some k ∨ vm.ownBlock = some k) := fun v hv k hk e => by
    have := h.a5 v hv k hk
    rcases e with e | e | e
    · exact this.1 e
    · exact this.2.1 e
    · exact this.2.2.1 e
  have sw2 : S w2 va' vm := s2 (hS _ _ _ _ h.lw (g1.block b ltb (fun e => h.a1.1 e.symm)))
  have sw4 : S w4 va' vm' := s4 (hS _ _ _ _ sw2 (g3.block b (by omega) (fun e => h.a1.2.1 e.symm)))
  refine { lw := sw4, bl := by omega, pr := ?_, rw := rlc, sh := ?_, fr := ?_, a1 := ⟨nA, nM, h.a1.2.2.1, h.a1.2.2.2⟩, a2 := ?_, a3 := ?_, a5 := ?_, o1 := ?_, o2 := ?_, o3 := h.o3 }
  · refine Pr.more lc m rowA rowM h.pr.len (fun i hi hi' => ?_) ⟨n, rlc⟩
    obtain ⟨k, hk⟩ := h.pr.ent i hi hi'
    exact ⟨k, hk.fr fall (fun k' hk' => entnot _ (List.getElem_mem hi) k' hk')⟩
  · intro v hv a k c hvv e
    rcases List.mem_append.1 hv with hv | hv
    · exact h.sh v hv a k c hvv e
    · obtain rfl := List.mem_singleton.1 hv
      obtain ⟨a', c', hf⟩ := h.rw.form
      rw [hf] at hvv
      cases hvv
      exact Nat.le_refl _
  · refine h.fr.then fall (fun k hk e => ?_)
    rcases e with e | e | e
    · exact .inl e
    · rcases h.o1 k e with h' | h'
      · exact .inr (.inl h')
      · omega
    · rcases h.o2 k e with h' | h'
      · exact .inr (.inr (.inl h'))
      · omega
  · intro k hk
    refine ⟨fun e => ?_, fun e => ?_, ?_⟩
    · rcases ownM k e with h' | h'
      · exact nAM k hk h'
      · have := ltA k hk; omega
    · rcases ownA k hk with h' | h'
      · exact (h.a2 k h').2.1 e
      · have := h.rw.lt k e; omega
    · trivial
  · intro k hk
    refine ⟨fun e => ?_, ?_⟩
    · rcases ownM k hk with h' | h'
      · exact (h.a3 k h').1 e
      · have := h.rw.lt k e; omega
    · trivial
  · intro v hv k hk
    have lv : k < wr.heap.size := by
      rcases List.mem_append.1 hv with hv | hv
      · exact h.entlt v hv k hk
      · obtain rfl := List.mem_singleton.1 hv; exact h.rw.lt k hk
    have old : k ≠ b ∧ va.ownBlock ≠ some k ∧ vm.ownBlock ≠ some k ∧ True := by
      rcases List.mem_append.1 hv with hv | hv
      · exact h.a5 v hv k hk
      · obtain rfl := List.mem_singleton.1 hv
        exact ⟨fun e => h.a1.2.2.1 (by rw [hk, e]), fun e => (h.a2 k e).2.1 hk, fun e => (h.a3 k e).1 hk, trivial⟩
    refine ⟨old.1, fun e => ?_, fun e => ?_, old.2.2.2⟩
    · rcases ownA k e with h' | h'
      · exact old.2.1 h'
      · omega
    · rcases ownM k e with h' | h'
      · exact old.2.2.1 h'
      · omega
  · intro k hk
    rcases ownA k hk with h' | h'
    · exact h.o1 k h'
    · exact .inr (by omega)
  · intro k hk
    rcases ownM k hk with h' | h'
    · exact h.o2 k h'
    · exact .inr (by omega)
end
theorem LI.mid {sz : Nat} {mk : Int → List Value} {m : Int} {w : World} {b : Nat} {va0 vm0 l0 : Value} {S : World → Value → Value → Prop} {wr : World} {n : Nat} {lc va vm : Value} {L : List Value} {M : List Int} (h : LI sz mk m w b va0 vm0 l0 S wr n lc va vm L M) {w1 w2 : World} {va' : Value} (g1 : Gr wr va w1 va') (f2 : Fr (fun k => k = b) w1 w2) : Rw w2 1 vm L.length (M.map (Value.int .i64)) :=
  (h.pr.rm.other g1 (fun k hk e => (h.a2 k e.symm).1 hk)).fr f2 (fun k hk e => h.a1.2.1 (by rw [hk, e]))

end Go.Proofs.YtafkpmjifgohcaaGreatDoor

namespace Go.Proofs.YtafkpmjifgohcaaGreatDoor
open Go.RowKit

theorem Tryz.infoSlI : (Tryz.prog.info? 28).map (fun i => (i.zero, i.size, i.bytes)) = some (some (.slice none 0 0), 1, 24) := by kernel_rfl

set_option maxRecDepth 100000 in
set_option maxHeartbeats 4000000 in
theorem ints_any (b : Nat) (text : ByteArray) (vf vb vm vn vk l : Value) (cnt n : Nat) (L : List Value) (M : List Int) (xs : List Value) (w : World) (hw : Lw w b text vf vb vm vn vk cnt) (hp : Pr w 1 mk1 vn vk L M) (hl : Rw w 1 l n xs)
    (p1 : vn.ownBlock ≠ some b ∧ vk.ownBlock ≠ some b ∧ l.ownBlock ≠ some b) (p2 : ∀ k, vn.ownBlock = some k → vk.ownBlock ≠ some k ∧ l.ownBlock ≠ some k) (p3 : ∀ k, vk.ownBlock = some k → l.ownBlock ≠ some k)
    (p4 : ∀ v ∈ L, ∀ k, v.ownBlock = some k → k ≠ b ∧ vn.ownBlock ≠ some k ∧ vk.ownBlock ≠ some k ∧ l.ownBlock ≠ some k) (hn : n ≤ 100000) (hc : cnt ≤ 1000000000) (hL : L.length ≤ 1000000000) :
    Calls Tryz.prog 34 #[.pointer (some ⟨b, 0, none⟩), l] w fun e w' => e = .returned (.tuple #[]) ∧ ∃ nn lc vn' vk' L' M', LI 1 mk1 (-((cnt : Int) + 1)) w b vn vk l (fun w1 a c => Lw w1 b text vf vb vm a c (cnt + 1)) w' nn lc vn' vk' (L ++ L') (M ++ M') ∧ L'.length = 4 ∧ nn ≤ n + 65 ∧
      ∀ v ∈ L', (∀ k, v.ownBlock = some k → l.ownBlock = some k ∨ w.heap.size ≤ k) ∧ ∀ a k c, v = .slice a k c → k ≤ n + 65 := by
  obtain ⟨lo, lcap, rfl⟩ := hl.form
  obtain ⟨m, hm⟩ : ∃ m, m = -((cnt : Int) + 1) := ⟨_, rfl⟩
  rw [← hm]
  have hneg : -((cnt : Int) + 1) = m := hm.symm
  have hwm : IntKind.i64.wrap m = m := by rw [IntKind.wrap_i64]; omega
  clear hm
  have d6 := hw.cell 6
  have f6 := hw.free 6
  simp at d6
  have hbl := hw.lt
  have HW : Hid (Lw w b text vf vb vm vn vk cnt) := hw
  have HP : Hid (Pr w 1 mk1 vn vk L M) := hp
  have HL : Hid (Rw w 1 (.slice lo n lcap) n xs) := hl
  have P1 : Hid (vn.ownBlock ≠ some b ∧ vk.ownBlock ≠ some b ∧ (Value.slice lo n lcap).ownBlock ≠ some b) := p1
  have P2 : Hid (∀ k, vn.ownBlock = some k → vk.ownBlock ≠ some k ∧ (Value.slice lo n lcap).ownBlock ≠ some k) := p2
  have P3 : Hid (∀ k, vk.ownBlock = some k → (Value.slice lo n lcap).ownBlock ≠ some k) := p3
  have P4 : Hid (∀ v ∈ L, ∀ k, v.ownBlock = some k → k ≠ b ∧ vn.ownBlock ≠ some k ∧ vk.ownBlock ≠ some k ∧ (Value.slice lo n lcap).ownBlock ≠ some k) := p4
  clear hw hp hl p1 p2 p3 p4
  go_enter Tryz.func34, Tryz.ntmps34
  go_wp2_with fail
  have HW2 : Hid (Lw (w.setCell ⟨b, 6, none⟩ (.int .i64 ((cnt : Int) + 1))) b text vf vb vm vn vk (cnt + 1)) := HW.out.setCount (cnt + 1) _ (by omega)
  have HF2 : Hid (Fr (fun k => k = b) w (w.setCell ⟨b, 6, none⟩ (.int .i64 ((cnt : Int) + 1)))) := fr_setCell w ⟨b, 6, none⟩ _
  generalize w.setCell ⟨b, 6, none⟩ (.int .i64 ((cnt : Int) + 1)) = W2 at HW2 HF2 ⊢
  clear d6 f6
  have HL2 : Hid (Rw W2 1 (.slice lo n lcap) n xs) := HL.out.fr HF2.out (fun k hk e => P1.out.2.2 (by rw [hk, e]))
  have HP2 : Hid (Pr W2 1 mk1 vn vk L M) := HP.out.fr HF2.out (fun k hk e => P1.out.1 (by rw [hk, e])) (fun k hk e => P1.out.2.1 (by rw [hk, e])) (fun v hv k hk e => (P4.out v hv k hk).1 e)
  have HSL : Hid (0 < n → ∃ g, lo = some ⟨g, 0, none⟩) := fun h => HL2.out.some_of h
  go_loopw [4] (fun i wr => ∃ k : Nat, ∃ ys, k ≤ n ∧ i = .int .i64 k ∧ Rw wr 1 (.slice lo n lcap) n (rep k (mk1 m) ++ ys) ∧ Fr (fun k => (Value.slice lo n lcap).ownBlock = some k) W2 wr) (fun i _ => n - (intOf i).toNat)
  case atStart => exact ⟨0, xs, by omega, rfl, by simpa [rep] using HL2.out, Fr.refl _ _⟩
  case round =>
    obtain ⟨k, ys, hk, rfl, hR, hF⟩ := hrel
    have HR : Hid (Rw wr 1 (.slice lo n lcap) n (rep k (mk1 m) ++ ys)) := hR
    have HF : Hid (Fr (fun k => (Value.slice lo n lcap).ownBlock = some k) W2 wr) := hF
    have HWr : Hid (Lw wr b text vf vb vm vn vk (cnt + 1)) := HW2.out.of_block (hF.block b HW2.out.lt (fun e => P1.out.2.2 e))
    clear hR hF
    have e6 : wr.cell? ⟨b, 6, none⟩ = some (.int .i64 ((cnt : Int) + 1)) := by have := HWr.out.cell 6; simpa using this
    have hbw := HWr.out.lt
    by_cases hlt : k < n
    · obtain ⟨g, rfl⟩ := HSL.out (by omega)
      obtain ⟨v0, y0, z0⟩ := HR.out.there k (by omega)
      have hgb : g ≠ b := fun e => P1.out.2.2 (by rw [e]; rfl)
      have kk : (k : Int) < (n : Int) := by omega
      go_wp2
      go_roundw
      case rel =>
        refine ⟨k + 1, ys.drop 1, by omega, by go_num, ?_, ?_⟩
        · have := HR.out.mark (X := mk1 m) rfl hlt
          rw [show (mk1 m).length = 1 from rfl, Nat.mul_one] at this
          exact this
        · have := HF.out.then (fr_setCell wr ⟨g, k, none⟩ (.int .i64 m)) (fun k' _ e => by rw [e]; rfl)
          exact this
      case measure => simp [intOf]; omega
    · have HR2 : Hid (Rw wr 1 (.slice lo n lcap) n (rep n (mk1 m))) := by
        obtain rfl : k = n := by omega
        have hl := HR.out.1
        rw [List.length_append, rep_length, show (mk1 m).length = 1 from rfl] at hl
        have : ys = [] := List.length_eq_zero_iff.1 (by omega)
        rw [this, List.append_nil] at HR
        exact HR
      have HS : Hid (∀ w1 w2 a c, (fun w1 a c => Lw w1 b text vf vb vm a c (cnt + 1)) w1 a c → w2.heap[b]? = w1.heap[b]? → (fun w1 a c => Lw w1 b text vf vb vm a c (cnt + 1)) w2 a c) := fun w1 w2 a c h e => Lw.of_block h e
      have HJ0 : Hid (LI 1 mk1 m w b vn vk (.slice lo n lcap) (fun w1 a c => Lw w1 b text vf vb vm a c (cnt + 1)) wr n (.slice lo n lcap) vn vk L M) := by
        exact
          { lw := HWr.out
            bl := hbw
            pr := HP2.out.fr HF.out (fun k hk e => (P2.out k hk).2 e) (fun k hk e => P3.out k hk e) (fun v hv k hk e => (P4.out v hv k hk).2.2.2 e)
            rw := HR2.out
            sh := fun v hv a k' c hvv e => by
              cases hlo : (Value.slice lo n lcap).ownBlock with
              | some g => exact absurd (hlo) (fun h => (P4.out v hv g (e.trans h)).2.2.2 h)
              | none =>
                obtain ⟨i, hi, rfl⟩ := List.getElem_of_mem hv
                obtain ⟨n', hn'⟩ := HP2.out.ent i hi (by have := HP2.out.len; omega)
                rw [hlo] at e
                rcases hn'.2 with ⟨e1, _⟩ | ⟨g, cap, e1, _⟩
                · rw [e1] at hvv; cases hvv; omega
                · rw [e1] at e; cases e
            fr := (HF2.out.mono (fun k h => .inl h)).then HF.out (fun k _ h => .inr (.inr (.inr h)))
            a1 := ⟨P1.out.1, P1.out.2.1, P1.out.2.2, trivial⟩
            a2 := fun k hk => ⟨(P2.out k hk).1, (P2.out k hk).2, trivial⟩
            a3 := fun k hk => ⟨P3.out k hk, trivial⟩
            a5 := fun v hv k hk => ⟨(P4.out v hv k hk).1, (P4.out v hv k hk).2.1, (P4.out v hv k hk).2.2.1, trivial⟩
            o1 := fun k hk => .inl hk
            o2 := fun k hk => .inl hk
            o3 := fun k hk => .inl hk }
      clear HR HF HR2 HF2 HW2 HL2 HP2 HSL HWr e6 hbw
      go_wp2_with fail
      obtain ⟨wst, rfl⟩ : ∃ wst : World, wst = wr := ⟨_, rfl⟩
      go_loopw [1, 5] (fun lv i wr => ∃ k : Nat, ∃ vn' vk' L' M', k ≤ 65 ∧ i = .int .i64 k ∧ LI 1 mk1 m w b vn vk (.slice lo n lcap) (fun w1 a c => Lw w1 b text vf vb vm a c (cnt + 1)) wr (n + k) lv vn' vk' (L ++ L') (M ++ M') ∧ L'.length = kept4 k ∧
        ∀ v ∈ L', (∀ k, v.ownBlock = some k → (Value.slice lo n lcap).ownBlock = some k ∨ w.heap.size ≤ k) ∧ ∀ a k c, v = .slice a k c → k ≤ n + 65) (fun _ i _ => 65 - (intOf i).toNat)
      case atStart => exact ⟨0, vn, vk, [], [], by omega, rfl, by rw [List.append_nil, List.append_nil]; exact HJ0.out, rfl, fun v hv => by cases hv⟩
      case round =>
        obtain ⟨k, vn', vk', L', M', hk65, rfl, hJ, hLk, hnew⟩ := hrel
        clear HJ0
        obtain ⟨co, cc, rfl⟩ := hJ.rw.form
        obtain ⟨q, hq⟩ : ∃ q, q = (L ++ L').length := ⟨_, rfl⟩
        obtain ⟨bo, bc, hvb⟩ := hJ.pr.ra.form
        obtain ⟨mo, mc, hvm⟩ := hJ.pr.rm.form
        rw [← hq] at hvb hvm
        subst hvb; subst hvm
        have HQ : Hid ((L ++ L').length = q) := hq.symm
        have hq2 : q ≤ 1000000004 := by
          rw [hq, List.length_append, hLk]
          have : kept4 k ≤ 4 := by unfold kept4; split; omega; split <;> omega
          omega
        have HJ : Hid _ := hJ
        have c4 : wr.cell? ⟨b, 4, none⟩ = some (.slice bo q bc) := by have := hJ.lw.cell 4; simpa using this
        have hbl2 := hJ.bl
        have HK : Hid (L'.length = kept4 k) := hLk
        have HN : Hid (∀ v ∈ L', (∀ k, v.ownBlock = some k → (Value.slice lo n lcap).ownBlock = some k ∨ w.heap.size ≤ k) ∧ ∀ a k c, v = .slice a k c → k ≤ n + 65) := hnew
        clear hJ hLk hnew hq
        by_cases hend : k ≤ 64
        · have kk2 : (k : Int) ≤ 64 := by omega
          by_cases hadd : k < 3 ∨ k = 64
          · have HK2 : Hid (kept4 (k + 1) = kept4 k + 1) := by
              unfold Hid
              rcases hadd with h | rfl
              · unfold kept4; rw [if_pos (by omega : k ≤ 2)]; split; rfl; rw [if_pos (by omega)]; omega
              · rfl
            have HJa : Hid _ := HJ.out.below ((Below.refl _ _).alloc (Nat.le_refl _) (.cells #[.slice co (n + k) cc] 28)) HS.out
            have HRa : Hid (Rw (wr.alloc (.cells #[.slice co (n + k) cc] 28)) 1 (.slice bo q bc) q (L ++ L')) := by have := HJa.out.pr.ra; rw [HQ.out] at this; exact this
            have HSa : Hid (Src Tryz.prog 1 29 (.slice (some ⟨wr.heap.size, 0, none⟩) 1 1) 1 [.slice co (n + k) cc] (wr.alloc (.cells #[.slice co (n + k) cc] 28))) := by
              exact srcR_new wr 29 28 Tryz.underlying29 #[.slice co (n + k) cc] 1 1 rfl (by intro u hu; simp at hu; rw [hu]; rfl)
            have hc3 : (3 : Int) ≤ (k : Int) ∧ (k : Int) = 64 ∨ (k : Int) < 3 := by omega
            clear hbl hadd
            rcases hc3 with ⟨a4, a5⟩ | a4
            all_goals
              go_wp2_with (at_builtin; refine wpList_append_rw rfl (.tmp 42) (.tmp 44) 29 29 rfl 28 _ 1 24 Tryz.underlying29 Tryz.infoSlI rfl (.slice bo q bc) (.slice (some ⟨wr.heap.size, 0, none⟩) 1 1) q 1 (L ++ L') [.slice co (n + k) cc] rfl rfl HRa.out HSa.out (by decide) (by omega) (by omega) ?_; intro g1 cap1 w1 hr1 hg1 hp1; have HR1 : Hid (Rw w1 1 (.slice (some ⟨g1, 0, none⟩) (q + 1) cap1) (q + 1) (L ++ L' ++ [.slice co (n + k) cc])) := hr1; have HG1 : Hid (Gr (wr.alloc (.cells #[.slice co (n + k) cc] 28)) (.slice bo q bc) w1 (.slice (some ⟨g1, 0, none⟩) (q + 1) cap1)) := hg1; have HW1 : Hid (Lw w1 b text vf vb vm (.slice bo q bc) (.slice mo q mc) (cnt + 1)) := HJa.out.lw.of_block (hg1.block b HJa.out.bl (fun e => HJa.out.a1.1 e.symm)); clear hr1 hg1 hp1; have hb1 := HW1.out.lt; have e2 : w1.cell? ⟨b, 4, none⟩ = some (.slice bo q bc) := by { have := HW1.out.cell 4; simpa using this }; have e2f := HW1.out.free 4)
              have HF2 : Hid (Fr (fun k => k = b) w1 (w1.setCell ⟨b, 4, none⟩ (.slice (some ⟨g1, 0, none⟩) (q + 1) cap1))) := fr_setCell w1 ⟨b, 4, none⟩ _
              have HW2 : Hid (Lw (w1.setCell ⟨b, 4, none⟩ (.slice (some ⟨g1, 0, none⟩) (q + 1) cap1)) b text vf vb vm (.slice (some ⟨g1, 0, none⟩) (q + 1) cap1) (.slice mo q mc) (cnt + 1)) := HW1.out.setNums _
              generalize w1.setCell ⟨b, 4, none⟩ (.slice (some ⟨g1, 0, none⟩) (q + 1) cap1) = W2 at HF2 HW2 ⊢
              clear e2 e2f hb1 c4
              have hb2 := HW2.out.lt
              have e3 : W2.cell? ⟨b, 5, none⟩ = some (.slice mo q mc) := by have := HW2.out.cell 5; simpa using this
              have e6 : W2.cell? ⟨b, 6, none⟩ = some (.int .i64 ((cnt : Int) + 1)) := by have := HW2.out.cell 6; simpa using this
              have HBb : Hid (Below W2.heap.size W2 ((W2.alloc (.cells #[.int .i64 m] 3)).drew)) := ((Below.refl _ _).alloc (Nat.le_refl _) _).drew
              have HFb : Hid (Fr (fun k => k = b) w1 ((W2.alloc (.cells #[.int .i64 m] 3)).drew)) := HF2.out.then (below_fr HBb.out (fun k => k = b)) (fun _ _ h => h)
              have HRb : Hid (Rw ((W2.alloc (.cells #[.int .i64 m] 3)).drew) 1 (.slice mo q mc) q ((M ++ M').map (Value.int .i64))) := by have := HJa.out.mid HG1.out HFb.out; rw [HQ.out] at this; exact this
              have HSb : Hid (Src Tryz.prog 1 28 (.slice (some ⟨W2.heap.size, 0, none⟩) 1 1) 1 [.int .i64 m] ((W2.alloc (.cells #[.int .i64 m] 3)).drew)) := by
                exact srcR_new W2.drew 28 3 Tryz.underlying28 #[.int .i64 m] 1 1 rfl (by intro u hu; simp at hu; rw [hu]; rfl)
              have HWb : Hid (Lw ((W2.alloc (.cells #[.int .i64 m] 3)).drew) b text vf vb vm (.slice (some ⟨g1, 0, none⟩) (q + 1) cap1) (.slice mo q mc) (cnt + 1)) := HW2.out.of_block (HBb.out.block b hb2)
              have HNb : Hid ((Value.slice mo q mc).ownBlock ≠ some b) := HJa.out.a1.2.1
              go_region_law ((refine step_append_rw (by rfl) (.tmp 52) (.tmp 58) 28 28 (by rfl) 3 _ 1 8 Tryz.underlying28 Tryz.infoI (by rfl) (.slice mo q mc) (.slice (some ⟨W2.heap.size, 0, none⟩) 1 1) q 1 ((M ++ M').map (Value.int .i64)) [.int .i64 m] (by rfl) (by rfl) HRb.out HSb.out (by decide) (by omega) (by omega) ?_; intro g3 cap3 w3 hr3 hg3; have HR3 : Hid (Rw w3 1 (.slice (some ⟨g3, 0, none⟩) (q + 1) cap3) (q + 1) ((M ++ M').map (Value.int .i64) ++ [.int .i64 m])) := hr3; have HG3 : Hid (Gr ((W2.alloc (.cells #[.int .i64 m] 3)).drew) (.slice mo q mc) w3 (.slice (some ⟨g3, 0, none⟩) (q + 1) cap3)) := hg3; have HW3 : Hid (Lw w3 b text vf vb vm (.slice (some ⟨g1, 0, none⟩) (q + 1) cap1) (.slice mo q mc) (cnt + 1)) := HWb.out.of_block (hg3.block b HWb.out.lt (fun e => HNb.out e.symm)); clear hr3 hg3; have hb3 := HW3.out.lt; have e3 : w3.cell? ⟨b, 5, none⟩ = some (.slice mo q mc) := by { have := HW3.out.cell 5; simpa using this }; have e3f := HW3.out.free 5))
              all_goals
                clear e3f e3 hb3
                have HJ4 : Hid (LI 1 mk1 m w b vn vk (.slice lo n lcap) (fun w1 a c => Lw w1 b text vf vb vm a c (cnt + 1)) (w3.setCell ⟨b, 5, none⟩ (.slice (some ⟨g3, 0, none⟩) (q + 1) cap3)) (n + k) (.slice co (n + k) cc) (.slice (some ⟨g1, 0, none⟩) (q + 1) cap1) (.slice (some ⟨g3, 0, none⟩) (q + 1) cap3) (L ++ L' ++ [.slice co (n + k) cc]) (M ++ M' ++ [m])) :=
                  HJa.out.add HS.out (by rw [HQ.out]; exact HR1.out) HG1.out HFb.out (fun _ => HWb.out) (by rw [HQ.out]; exact HR3.out) HG3.out (fr_setCell w3 ⟨b, 5, none⟩ _) (fun _ => HW3.out.setNm _)
                generalize w3.setCell ⟨b, 5, none⟩ (.slice (some ⟨g3, 0, none⟩) (q + 1) cap3) = W4 at HJ4 ⊢
                clear hb2
                have hb4 := HJ4.out.bl
                have x6 : W4.cell? ⟨b, 6, none⟩ = some (.int .i64 ((cnt : Int) + 1)) := by have := HJ4.out.lw.cell 6; simpa using this
                have HJ5 : Hid _ := HJ4.out.below ((Below.refl _ _).alloc (Nat.le_refl _) (.cells #[.int .i64 m] 3)) HS.out
                have HS5 : Hid (Src Tryz.prog 1 28 (.slice (some ⟨W4.heap.size, 0, none⟩) 1 1) 1 (mk1 m) (W4.alloc (.cells #[.int .i64 m] 3))) := by
                  exact srcR_new W4 28 3 Tryz.underlying28 #[.int .i64 m] 1 1 rfl (by intro u hu; simp at hu; rw [hu]; rfl)
                go_wp2_with (at_builtin; refine wpList_append_rw rfl (.tmp 62) (.tmp 68) 28 28 rfl 3 _ 1 8 Tryz.underlying28 Tryz.infoI rfl (.slice co (n + k) cc) (.slice (some ⟨W4.heap.size, 0, none⟩) 1 1) (n + k) 1 (rep (n + k) (mk1 m)) (mk1 m) rfl rfl HJ5.out.rw HS5.out (by decide) (by omega) (by omega) ?_; intro g5 cap5 w5 hr5 hg5 hp5; have HJ6 : Hid _ := HJ5.out.growL HS.out hr5 hg5 hp5; clear hr5 hg5 hp5)
                go_roundw
                case rel =>
                  refine ⟨k + 1, _, _, L' ++ [.slice co (n + k) cc], M' ++ [m], by omega, by go_num, by rw [← List.append_assoc, ← List.append_assoc]; exact HJ6.out, by rw [List.length_append, HK.out, HK2.out]; rfl, fun v hv => ?_⟩
                  rcases List.mem_append.1 hv with hv | hv
                  · exact HN.out v hv
                  · rw [List.mem_singleton.1 hv]
                    exact ⟨fun k hk => HJa.out.o3 k hk, fun a k' c e => by cases e; omega⟩
                case measure => simp [intOf]; omega
          · have HK2 : Hid (kept4 (k + 1) = kept4 k) := by
              unfold Hid kept4
              rw [if_neg (by omega), if_pos (by omega), if_neg (by omega), if_pos (by omega)]
            have a4 : ¬ (k : Int) < 3 := by omega
            have a5 : ¬ (k : Int) = 64 := by omega
            have HJ4 := HJ
            clear hbl hadd c4
            have hb4 := HJ4.out.bl
            have x6 : wr.cell? ⟨b, 6, none⟩ = some (.int .i64 ((cnt : Int) + 1)) := by have := HJ4.out.lw.cell 6; simpa using this
            have HJ5 : Hid _ := HJ4.out.below ((Below.refl _ _).alloc (Nat.le_refl _) (.cells #[.int .i64 m] 3)) HS.out
            have HS5 : Hid (Src Tryz.prog 1 28 (.slice (some ⟨wr.heap.size, 0, none⟩) 1 1) 1 (mk1 m) (wr.alloc (.cells #[.int .i64 m] 3))) := by
              exact srcR_new wr 28 3 Tryz.underlying28 #[.int .i64 m] 1 1 rfl (by intro u hu; simp at hu; rw [hu]; rfl)
            go_wp2_with (at_builtin; refine wpList_append_rw rfl (.tmp 62) (.tmp 68) 28 28 rfl 3 _ 1 8 Tryz.underlying28 Tryz.infoI rfl (.slice co (n + k) cc) (.slice (some ⟨wr.heap.size, 0, none⟩) 1 1) (n + k) 1 (rep (n + k) (mk1 m)) (mk1 m) rfl rfl HJ5.out.rw HS5.out (by decide) (by omega) (by omega) ?_; intro g5 cap5 w5 hr5 hg5 hp5; have HJ6 : Hid _ := HJ5.out.growL HS.out hr5 hg5 hp5; clear hr5 hg5 hp5)
            go_roundw
            case rel => exact ⟨k + 1, _, _, L', M', by omega, by go_num, HJ6.out, by rw [HK.out, HK2.out], HN.out⟩
            case measure => simp [intOf]; omega
        · have kk : ¬ (k : Int) ≤ 64 := by omega
          go_wp2_with fail
          go_end0
          obtain rfl : k = 65 := by omega
          exact ⟨rfl, n + 65, _, _, _, L', ⟨M', HJ.out⟩, by rw [HK.out]; rfl, by omega, HN.out⟩
end Go.Proofs.YtafkpmjifgohcaaGreatDoor
