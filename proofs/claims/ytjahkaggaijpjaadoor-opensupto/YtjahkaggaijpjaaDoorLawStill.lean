/- The law's own still: lists that hold their marks read as their owner wrote them. -/
import Derived.Test.YtjahkaggaijpjaaDoorLawWorld
import Derived.Test.YtjahkaggaijpjaaDoorLawSealed
namespace Go.Proofs.YtjahkaggaijpjaaDoor
open Go.RowKit

/-- The law's struct in memory. -/
structure Lw (w : World) (b : Nat) (text : ByteArray) (vf vb vm vn vk : Value) (cnt : Nat) : Prop where
  blk : w.heap[b]? = some (.cells #[.string text, vf, vb, vm, vn, vk, .int .i64 cnt] 69 (0, 0))

theorem Lw.cell {w : World} {b : Nat} {text : ByteArray} {vf vb vm vn vk : Value} {cnt : Nat} (h : Lw w b text vf vb vm vn vk cnt) (j : Nat) : w.cell? ⟨b, j, none⟩ = (#[.string text, vf, vb, vm, vn, vk, .int .i64 cnt] : Array Value)[j]? := by
  simp [World.cell?, h.blk]
theorem Lw.free {w : World} {b : Nat} {text : ByteArray} {vf vb vm vn vk : Value} {cnt : Nat} (h : Lw w b text vf vb vm vn vk cnt) (j : Nat) : w.frozen? ⟨b, j, none⟩ = false := by
  simp [World.frozen?, h.blk]
theorem Lw.lt {w : World} {b : Nat} {text : ByteArray} {vf vb vm vn vk : Value} {cnt : Nat} (h : Lw w b text vf vb vm vn vk cnt) : b < w.heap.size := by
  rcases Nat.lt_or_ge b w.heap.size with h' | h'
  · exact h'
  · have := h.blk; simp [Array.getElem?_eq_none h'] at this

theorem Rw.some_of {w : World} {sz n cap : Nat} {vo : Option Addr} {xs : List Value} (h : Rw w sz (.slice vo n cap) n xs) (hn : 0 < n) : ∃ g, vo = some ⟨g, 0, none⟩ := by
  rcases h.2 with ⟨_, h0⟩ | ⟨g, c, e, _⟩
  · omega
  · cases e; exact ⟨g, rfl⟩

theorem rep1 (n j : Nat) (m : Int) (h : j < n) : (rep n (mk1 m))[j]? = some (.int .i64 m) := by
  induction n with
  | zero => omega
  | succ n ih =>
    rw [rep_succ]
    by_cases hj : j < n
    · rw [List.getElem?_append_left (by rw [rep_length]; simp [mk1]; omega)]
      exact ih hj
    · have e : j = n := by omega
      subst e
      rw [List.getElem?_append_right (by rw [rep_length]; simp [mk1])]
      simp [rep_length, mk1]

theorem rep4 (n j i : Nat) (m : Int) (h : j < n) (hi : i < 4) : (rep n (mk4 m))[j * 4 + i]? = (mk4 m)[i]? := by
  induction n with
  | zero => omega
  | succ n ih =>
    rw [rep_succ]
    by_cases hj : j < n
    · rw [List.getElem?_append_left (by rw [rep_length]; simp [mk4]; omega)]
      exact ih hj
    · have e : j = n := by omega
      subst e
      rw [List.getElem?_append_right (by rw [rep_length]; simp [mk4])]
      rw [rep_length, show (mk4 m).length = 4 from rfl, show j * 4 + i - j * 4 = i by omega]

set_option maxRecDepth 100000 in
set_option maxHeartbeats 4000000 in
theorem still_any (b : Nat) (text : ByteArray) (vf vb vm vn vk : Value) (cnt : Nat) (Lb : List Value) (Mb : List Int) (Ln : List Value) (Mn : List Int) (w : World) (hw : Lw w b text vf vb vm vn vk cnt) (hb : Pr w 4 mk4 vb vm Lb Mb) (hn : Pr w 1 mk1 vn vk Ln Mn)
    (hLb : Lb.length ≤ 1000000000) (hLn : Ln.length ≤ 1000000000) (hsz : ∀ v ∈ Lb ++ Ln, ∀ a n c, v = .slice a n c → n ≤ 1000000000) :
    Calls Tryd.prog 31 #[.pointer (some ⟨b, 0, none⟩)] w fun e w' => e = .returned (.bool true) ∧ Below w.heap.size w w' := by
  obtain ⟨an, cn, rfl⟩ := hn.ra.form
  obtain ⟨ak, ck, rfl⟩ := hn.rm.form
  obtain ⟨ab, cb, rfl⟩ := hb.ra.form
  obtain ⟨am, cm, rfl⟩ := hb.rm.form
  have d2 := hw.cell 2
  have d3 := hw.cell 3
  have d4 := hw.cell 4
  have d5 := hw.cell 5
  simp at d2 d3 d4 d5
  have hbl := hw.lt
  have HN : Hid (Pr w 1 mk1 (.slice an Ln.length cn) (.slice ak Ln.length ck) Ln Mn) := hn
  have HBB : Hid (Pr w 4 mk4 (.slice ab Lb.length cb) (.slice am Lb.length cm) Lb Mb) := hb
  have HSZ : Hid (∀ v ∈ Lb ++ Ln, ∀ a n c, v = .slice a n c → n ≤ 1000000000) := hsz
  clear hn hb hsz hw
  go_enter Tryd.func31, Tryd.ntmps31
  go_wp2
  go_loopw [3] (fun i wr => ∃ k q : Nat, k ≤ Ln.length ∧ i = .int .i64 k ∧ wr = w.drewN q) (fun i _ => Ln.length - (intOf i).toNat)
  case atStart => exact ⟨0, 0, by omega, rfl, rfl⟩
  case round =>
    obtain ⟨k, q, hk, rfl, rfl⟩ := hrel
    by_cases hlt : k < Ln.length
    · obtain ⟨gn, rfl⟩ := HN.out.ra.some_of (by omega)
      obtain ⟨gk, rfl⟩ := HN.out.rm.some_of (by omega)
      have hMl := HN.out.len
      obtain ⟨n, hR⟩ := HN.out.ent k hlt (by omega)
      obtain ⟨lo, lc, hl⟩ := hR.form
      have e1 : w.cell? ⟨gn, k, none⟩ = some (.slice lo n lc) := by rw [HN.out.ra.cell k hlt, hl]
      have e2 : w.cell? ⟨gk, k, none⟩ = some (.int .i64 Mn[k]) := by rw [HN.out.rm.cell k (by simp; omega)]; simp
      have hnb : n ≤ 1000000000 := HSZ.out _ (List.mem_append_right _ (List.getElem_mem hlt)) _ _ _ hl
      rw [hl] at hR
      have HR : Hid (Rw w 1 (.slice lo n lc) n (rep n (mk1 Mn[k]))) := hR
      generalize Mn[k] = m at e2 HR
      clear hl hR
      have kk : (k : Int) < (Ln.length : Int) := by omega
      go_wp2
      go_loopw [4] (fun i wr => ∃ j q : Nat, j ≤ n ∧ i = .int .i64 j ∧ wr = w.drewN q) (fun i _ => n - (intOf i).toNat)
      case atStart => exact ⟨0, q, by omega, rfl, rfl⟩
      case round =>
        obtain ⟨j, q1, hj, rfl, rfl⟩ := hrel
        by_cases hjn : j < n
        · obtain ⟨g, rfl⟩ := HR.out.some_of (by omega)
          have e3 : w.cell? ⟨g, j, none⟩ = some (.int .i64 m) := HR.out.cellAt j _ (rep1 n j m hjn)
          have jj : (j : Int) < (n : Int) := by omega
          go_wp2_with fail
          go_quiet (fail)
          go_wp2
          go_roundw
          case rel => exact ⟨j + 1, _, by omega, by go_num, rfl⟩
          case measure => simp [intOf]; omega
        · go_wp2
          go_roundw
          case rel => exact ⟨k + 1, _, by omega, by go_num, rfl⟩
          case measure => simp [intOf]; omega
    · clear HN
      go_wp2
      go_loopw [5] (fun i wr => ∃ k : Nat, k ≤ Lb.length ∧ i = .int .i64 k ∧ Below w.heap.size w wr) (fun i _ => Lb.length - (intOf i).toNat)
      case atStart => exact ⟨0, by omega, rfl, below_drewN (Below.refl _ _) q⟩
      case round =>
        obtain ⟨k2, hk2, rfl, hbel⟩ := hrel
        have HB : Hid (Below w.heap.size w wr) := hbel
        clear hbel
        have carry : ∀ g j v, g < w.heap.size → w.cell? ⟨g, j, none⟩ = some v → wr.cell? ⟨g, j, none⟩ = some v := fun g j v hg h => (HB.out.cell (p := ⟨g, j, none⟩) hg).trans h
        have D2 := carry _ _ _ hbl d2
        have D3 := carry _ _ _ hbl d3
        by_cases hlt2 : k2 < Lb.length
        · obtain ⟨gb, rfl⟩ := HBB.out.ra.some_of (by omega)
          obtain ⟨gm, rfl⟩ := HBB.out.rm.some_of (by omega)
          have hMl := HBB.out.len
          obtain ⟨n, hR⟩ := HBB.out.ent k2 hlt2 (by omega)
          obtain ⟨lo, lc, hl⟩ := hR.form
          have lgb := HBB.out.ra.lt gb rfl
          have lgm := HBB.out.rm.lt gm rfl
          have e1 : w.cell? ⟨gb, k2, none⟩ = some (.slice lo n lc) := by rw [HBB.out.ra.cell k2 hlt2, hl]
          have e2 : w.cell? ⟨gm, k2, none⟩ = some (.int .i64 Mb[k2]) := by rw [HBB.out.rm.cell k2 (by simp; omega)]; simp
          have hnb : n ≤ 1000000000 := HSZ.out _ (List.mem_append_left _ (List.getElem_mem hlt2)) _ _ _ hl
          rw [hl] at hR
          have HR : Hid (Rw w 4 (.slice lo n lc) n (rep n (mk4 Mb[k2]))) := hR
          generalize Mb[k2] = m at e2 HR
          clear hl hR
          have kk : (k2 : Int) < (Lb.length : Int) := by omega
          have E1 := carry _ _ _ lgb e1
          clear carry
          go_wp2
          obtain ⟨wo, rfl⟩ : ∃ wo : World, wo = wr := ⟨_, rfl⟩
          go_loopw [6] (fun i wr => ∃ j : Nat, j ≤ n ∧ i = .int .i64 j ∧ Below w.heap.size w wr) (fun i _ => n - (intOf i).toNat)
          case atStart => exact ⟨0, by omega, rfl, HB.out⟩
          case round =>
            obtain ⟨j, hj, rfl, hbel3⟩ := hrel
            have HB3 : Hid (Below w.heap.size w wr) := hbel3
            clear hbel3
            have carry : ∀ g j v, g < w.heap.size → w.cell? ⟨g, j, none⟩ = some v → wr.cell? ⟨g, j, none⟩ = some v := fun g j v hg h => (HB3.out.cell (p := ⟨g, j, none⟩) hg).trans h
            have D2' := carry _ _ _ hbl d2
            have D3' := carry _ _ _ hbl d3
            have E1' := carry _ _ _ lgb e1
            have E2' := carry _ _ _ lgm e2
            by_cases hjn : j < n
            · obtain ⟨g, rfl⟩ := HR.out.some_of (by omega)
              have lg := HR.out.lt g rfl
              have c0 := carry g _ _ lg (HR.out.cellAt (j * 4 + 0) _ (rep4 n j 0 m hjn (by decide)))
              have c1 := carry g _ _ lg (HR.out.cellAt (j * 4 + 1) _ (rep4 n j 1 m hjn (by decide)))
              have c2 := carry g _ _ lg (HR.out.cellAt (j * 4 + 2) _ (rep4 n j 2 m hjn (by decide)))
              have c3 := carry g _ _ lg (HR.out.cellAt (j * 4 + 3) _ (rep4 n j 3 m hjn (by decide)))
              have jj : (j : Int) < (n : Int) := by omega
              have hzs : w.heap.size ≤ wr.heap.size := HB3.out.size
              have l1 : b < wr.heap.size := by omega
              have l2 : gb < wr.heap.size := by omega
              have l3 : gm < wr.heap.size := by omega
              simp only [Nat.add_zero] at c0
              clear carry d2 d3 d4 d5 e1 e2 D2 D3 E1
              go_wp2_with fail
              go_quiet (fail)
              go_wp2
              go_roundw
              case rel => exact ⟨j + 1, by omega, by go_num, below_drewN (HB3.out.alloc HB3.out.size _) _⟩
              case measure => simp [intOf]; omega
            · clear carry
              go_wp2
              go_roundw
              case rel => exact ⟨k2 + 1, by omega, by go_num, HB3.out⟩
              case measure => simp [intOf]; omega
        · clear carry
          go_wp2
          go_ret
          exact ⟨rfl, HB.out⟩
end Go.Proofs.YtjahkaggaijpjaaDoor
