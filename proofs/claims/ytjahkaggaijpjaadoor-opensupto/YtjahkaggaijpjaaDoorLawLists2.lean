/- The law's lists, walked. -/
import Derived.Test.YtjahkaggaijpjaaDoorLawLists
namespace Go.Proofs.YtjahkaggaijpjaaDoor
open Go.RowKit

theorem Lw.of_block {w1 w2 : World} {b : Nat} {text : ByteArray} {vf vb vm vn vk : Value} {cnt : Nat} (h : Lw w1 b text vf vb vm vn vk cnt) (e : w2.heap[b]? = w1.heap[b]?) : Lw w2 b text vf vb vm vn vk cnt := ⟨by rw [e]; exact h.blk⟩

theorem Rw.there {w : World} {sz n g cap : Nat} {xs : List Value} (h : Rw w sz (.slice (some ⟨g, 0, none⟩) n cap) n xs) (j : Nat) (hj : j < n * sz) : ∃ v, w.cell? ⟨g, j, none⟩ = some v ∧ w.frozen? ⟨g, j, none⟩ = false := by
  have hl := h.1
  rcases h.2 with ⟨e, _⟩ | ⟨g', cap', e, h1, _, _, h3, h4⟩
  · cases e
  · cases e
    have := Nat.mul_le_mul_right sz h1
    exact ⟨_, h4 j (by omega), h3 j (by omega)⟩

theorem Tryd.infoSl : (Tryd.prog.info? 38).map (fun i => (i.zero, i.size, i.bytes)) = some (some (.slice none 0 0), 1, 24) := by kernel_rfl
theorem Tryd.infoI : (Tryd.prog.info? 3).map (fun i => (i.zero, i.size, i.bytes)) = some (some (.int .i64 0), 1, 8) := by kernel_rfl
theorem Tryd.infoBl : (Tryd.prog.info? 48).map (fun i => (i.zero, i.size, i.bytes)) = some (some (.agg #[.int .i64 0, .int .i64 0, .int .i64 0, .bool false]), 4, 32) := by kernel_rfl

theorem LJ.mid {sz : Nat} {mk : Int → List Value} {m : Int} {w : World} {b : Nat} {va0 vm0 l0 : Value} {S : World → Value → Value → Prop} {bx : Nat} {C : Obj} {wr : World} {n : Nat} {lc va vm : Value} {L : List Value} {M : List Int} (h : LJ sz mk m w b va0 vm0 l0 S bx C wr n lc va vm L M) {w1 w2 : World} {va' : Value} (g1 : Gr wr va w1 va') (f2 : Fr (fun k => k = b) w1 w2) : Rw w2 1 vm L.length (M.map (Value.int .i64)) :=
  (h.pr.rm.other g1 (fun k hk e => (h.a2 k e.symm).1 hk)).fr f2 (fun k hk e => h.a1.2.1 (by rw [hk, e]))

/-- How many lists were kept by then. -/
def kept4 (k : Nat) : Nat := if k ≤ 2 then k else if k ≤ 64 then 3 else 4

set_option maxRecDepth 100000 in
set_option maxHeartbeats 4000000 in
theorem lists_any (b : Nat) (text : ByteArray) (vf vb vm vn vk l : Value) (cnt n : Nat) (L : List Value) (M : List Int) (xs : List Value) (w : World) (hw : Lw w b text vf vb vm vn vk cnt) (hp : Pr w 4 mk4 vb vm L M) (hl : Rw w 4 l n xs)
    (p1 : vb.ownBlock ≠ some b ∧ vm.ownBlock ≠ some b ∧ l.ownBlock ≠ some b) (p2 : ∀ k, vb.ownBlock = some k → vm.ownBlock ≠ some k ∧ l.ownBlock ≠ some k) (p3 : ∀ k, vm.ownBlock = some k → l.ownBlock ≠ some k)
    (p4 : ∀ v ∈ L, ∀ k, v.ownBlock = some k → k ≠ b ∧ vb.ownBlock ≠ some k ∧ vm.ownBlock ≠ some k ∧ l.ownBlock ≠ some k) (hn : n ≤ 100000) (hc : cnt ≤ 1000000000) (hL : L.length ≤ 1000000000) :
    Calls Tryd.prog 68 #[.pointer (some ⟨b, 0, none⟩), l] w fun e w' => e = .returned (.tuple #[]) ∧ ∃ bx C nn lc vb' vm' L' M', LJ 4 mk4 (-((cnt : Int) + 1)) w b vb vm l (fun w1 a c => Lw w1 b text vf a c vn vk (cnt + 1)) bx C w' nn lc vb' vm' (L ++ L') (M ++ M') ∧ L'.length = 4 ∧ nn ≤ n + 65 ∧
      ∀ v ∈ L', (∀ k, v.ownBlock = some k → l.ownBlock = some k ∨ w.heap.size ≤ k) ∧ ∀ a k c, v = .slice a k c → k ≤ n + 65 := by
  obtain ⟨lo, lcap, rfl⟩ := hl.form
  obtain ⟨m, hm⟩ : ∃ m, m = -((cnt : Int) + 1) := ⟨_, rfl⟩
  rw [← hm]
  have hneg : -((cnt : Int) + 1) = m := hm.symm
  have hwm : IntKind.i64.wrap m = m := by rw [IntKind.wrap_i64]; omega
  clear hm
  have d6 := hw.cell 6
  have f6 := hw.free 6
  simp at d6
  have hbl := hw.lt
  have HW : Hid (Lw w b text vf vb vm vn vk cnt) := hw
  have HP : Hid (Pr w 4 mk4 vb vm L M) := hp
  have HL : Hid (Rw w 4 (.slice lo n lcap) n xs) := hl
  have P1 : Hid (vb.ownBlock ≠ some b ∧ vm.ownBlock ≠ some b ∧ (Value.slice lo n lcap).ownBlock ≠ some b) := p1
  have P2 : Hid (∀ k, vb.ownBlock = some k → vm.ownBlock ≠ some k ∧ (Value.slice lo n lcap).ownBlock ≠ some k) := p2
  have P3 : Hid (∀ k, vm.ownBlock = some k → (Value.slice lo n lcap).ownBlock ≠ some k) := p3
  have P4 : Hid (∀ v ∈ L, ∀ k, v.ownBlock = some k → k ≠ b ∧ vb.ownBlock ≠ some k ∧ vm.ownBlock ≠ some k ∧ (Value.slice lo n lcap).ownBlock ≠ some k) := p4
  clear hw hp hl p1 p2 p3 p4
  go_enter Tryd.func68, Tryd.ntmps68
  go_wp2_with fail
  have HW1 : Hid (Lw (w.setCell ⟨b, 6, none⟩ (.int .i64 ((cnt : Int) + 1))) b text vf vb vm vn vk (cnt + 1)) := HW.out.setCount (cnt + 1) _ (by omega)
  have HF1 : Hid (Fr (fun k => k = b) w (w.setCell ⟨b, 6, none⟩ (.int .i64 ((cnt : Int) + 1)))) := fr_setCell w ⟨b, 6, none⟩ _
  have hz1 : (w.setCell ⟨b, 6, none⟩ (.int .i64 ((cnt : Int) + 1))).heap.size = w.heap.size := by simp
  generalize w.setCell ⟨b, 6, none⟩ (.int .i64 ((cnt : Int) + 1)) = W1 at HW1 HF1 hz1 ⊢
  have HZ1 : Hid (W1.heap.size = w.heap.size) := hz1
  have e6 : W1.cell? ⟨b, 6, none⟩ = some (.int .i64 ((cnt : Int) + 1)) := by have := HW1.out.cell 6; simpa using this
  have hb1 := HW1.out.lt
  clear hz1 d6 f6
  refine (fun hrest : Hid ?P1 => ?main1) ?rest1
  case main1 =>
    go_region_held3 (fun w' => w'.cell? ⟨b, 6, none⟩ = some (.int .i64 ((cnt : Int) + 1))) (go_keep) (fail)
    all_goals exact hrest.out
  case rest1 =>
    unfold Hid
    have HB2 : Hid (Below W1.heap.size W1 ((W1.alloc (.cells #[.int .i64 m, .int .i64 m, .int .i64 0, .bool false] 48)).drew)) := ((Below.refl _ _).alloc (Nat.le_refl _) _).drew
    have HBX : Hid (((W1.alloc (.cells #[.int .i64 m, .int .i64 m, .int .i64 0, .bool false] 48)).drew).heap[W1.heap.size]? = some (.cells #[.int .i64 m, .int .i64 m, .int .i64 0, .bool false] 48 (0, 0))) := by
      show (W1.heap.push _)[W1.heap.size]? = _
      simp
    go_wp2_with fail
    generalize (W1.alloc (.cells #[.int .i64 m, .int .i64 m, .int .i64 0, .bool false] 48)).drew = W2 at HB2 HBX ⊢
    have HF2 : Hid (Fr (fun k => k = b) w W2) := HF1.out.then (below_fr HB2.out (fun k => k = b)) (fun _ _ h => h)
    have HW2 : Hid (Lw W2 b text vf vb vm vn vk (cnt + 1)) := HW1.out.of_block (HB2.out.block b hb1)
    have HL2 : Hid (Rw W2 4 (.slice lo n lcap) n xs) := HL.out.fr HF2.out (fun k hk e => P1.out.2.2 (by rw [hk, e]))
    have HP2 : Hid (Pr W2 4 mk4 vb vm L M) := HP.out.fr HF2.out (fun k hk e => P1.out.1 (by rw [hk, e])) (fun k hk e => P1.out.2.1 (by rw [hk, e])) (fun v hv k hk e => (P4.out v hv k hk).1 e)
    have hbx : w.heap.size ≤ W1.heap.size := Nat.le_of_eq HZ1.out.symm
    generalize W1.heap.size = bx at hb1 HBX HZ1 hbx HB2 ⊢
    clear e6 HW1 HF1 HZ1 HB2
    have hsl : 0 < n → ∃ g, lo = some ⟨g, 0, none⟩ := fun h => HL2.out.some_of h
    have HSL : Hid (0 < n → ∃ g, lo = some ⟨g, 0, none⟩) := hsl
    clear hsl
    have lbx : bx < W2.heap.size := by
      rcases Nat.lt_or_ge bx W2.heap.size with h | h
      · exact h
      · have := HBX.out; simp [Array.getElem?_eq_none h] at this
    go_loopw [5] (fun i wr => ∃ k : Nat, ∃ ys, k ≤ n ∧ i = .int .i64 k ∧ Rw wr 4 (.slice lo n lcap) n (rep k (mk4 m) ++ ys) ∧ Fr (fun k => (Value.slice lo n lcap).ownBlock = some k) W2 wr) (fun i _ => n - (intOf i).toNat)
    case atStart => exact ⟨0, xs, by omega, rfl, by simpa [rep] using HL2.out, Fr.refl _ _⟩
    case round =>
      obtain ⟨k, ys, hk, rfl, hR, hF⟩ := hrel
      have HR : Hid (Rw wr 4 (.slice lo n lcap) n (rep k (mk4 m) ++ ys)) := hR
      have HF : Hid (Fr (fun k => (Value.slice lo n lcap).ownBlock = some k) W2 wr) := hF
      clear hR hF
      by_cases hlt : k < n
      · obtain ⟨g, rfl⟩ := HSL.out (by omega)
        have hgx : g ≠ bx := fun e => by have := HL.out.lt g rfl; omega
        have bxs : wr.heap[bx]? = some (.cells #[.int .i64 m, .int .i64 m, .int .i64 0, .bool false] 48 (0, 0)) := by
          rw [HF.out.block bx lbx (fun e => hgx (by cases e; rfl))]; exact HBX.out
        have x0 : wr.cell? ⟨bx, 0, none⟩ = some (.int .i64 m) := by simp [World.cell?, bxs]
        have x1 : wr.cell? ⟨bx, 1, none⟩ = some (.int .i64 m) := by simp [World.cell?, bxs]
        have x2 : wr.cell? ⟨bx, 2, none⟩ = some (.int .i64 0) := by simp [World.cell?, bxs]
        have x3 : wr.cell? ⟨bx, 3, none⟩ = some (.bool false) := by simp [World.cell?, bxs]
        clear bxs
        obtain ⟨v0, y0, z0⟩ := HR.out.there (k * 4) (by omega)
        obtain ⟨v1, y1, z1⟩ := HR.out.there (k * 4 + 1) (by omega)
        obtain ⟨v2, y2, z2⟩ := HR.out.there (k * 4 + 2) (by omega)
        obtain ⟨v3, y3, z3⟩ := HR.out.there (k * 4 + 3) (by omega)
        have kk : (k : Int) < (n : Int) := by omega
        go_wp2
        go_roundw
        case rel =>
          refine ⟨k + 1, ys.drop 4, by omega, by go_num, HR.out.mark rfl hlt, ?_⟩
          exact HF.out.then (fr_setCells wr g (k * 4) (mk4 m)) (fun k' _ e => by rw [e]; rfl)
        case measure => simp [intOf]; omega
      · have HR2 : Hid (Rw wr 4 (.slice lo n lcap) n (rep n (mk4 m))) := by
          obtain rfl : k = n := by omega
          have hl := HR.out.1
          rw [List.length_append, rep_length, show (mk4 m).length = 4 from rfl] at hl
          have : ys = [] := List.length_eq_zero_iff.1 (by omega)
          rw [this, List.append_nil] at HR
          exact HR
        have hS : ∀ w1 w2 a c, (fun w1 a c => Lw w1 b text vf a c vn vk (cnt + 1)) w1 a c → w2.heap[b]? = w1.heap[b]? → (fun w1 a c => Lw w1 b text vf a c vn vk (cnt + 1)) w2 a c := fun w1 w2 a c h e => Lw.of_block h e
        have HS : Hid (∀ w1 w2 a c, (fun w1 a c => Lw w1 b text vf a c vn vk (cnt + 1)) w1 a c → w2.heap[b]? = w1.heap[b]? → (fun w1 a c => Lw w1 b text vf a c vn vk (cnt + 1)) w2 a c) := hS
        clear hS
        have HJ0 : Hid (LJ 4 mk4 m w b vb vm (.slice lo n lcap) (fun w1 a c => Lw w1 b text vf a c vn vk (cnt + 1)) bx (.cells #[.int .i64 m, .int .i64 m, .int .i64 0, .bool false] 48 (0, 0)) wr n (.slice lo n lcap) vb vm L M) := by
          have lX : ∀ k, (Value.slice lo n lcap).ownBlock = some k → k < w.heap.size := HL.out.lt
          exact
            { lw := HW2.out.of_block (HF.out.block b HW2.out.lt (fun e => P1.out.2.2 e))
              bl := Nat.lt_of_lt_of_le HW2.out.lt HF.out.size
              pr := HP2.out.fr HF.out (fun k hk e => (P2.out k hk).2 e) (fun k hk e => P3.out k hk e) (fun v hv k hk e => (P4.out v hv k hk).2.2.2 e)
              rw := HR2.out
              sh := fun v hv a k' c hvv e => by
                cases hlo : (Value.slice lo n lcap).ownBlock with
                | some g => exact absurd (hlo) (fun h => (P4.out v hv g (e.trans h)).2.2.2 h)
                | none =>
                  obtain ⟨i, hi, rfl⟩ := List.getElem_of_mem hv
                  obtain ⟨n', hn'⟩ := HP2.out.ent i hi (by have := HP2.out.len; omega)
                  rw [hlo] at e
                  rcases hn'.2 with ⟨e1, _⟩ | ⟨g, cap, e1, _⟩
                  · rw [e1] at hvv; cases hvv; omega
                  · rw [e1] at e; cases e
              fr := (HF2.out.mono (fun k h => .inl h)).then HF.out (fun k _ h => .inr (.inr (.inr h)))
              box := by rw [HF.out.block bx lbx (fun e => by have := lX bx e; omega)]; exact HBX.out
              a1 := ⟨P1.out.1, P1.out.2.1, P1.out.2.2, by omega⟩
              a2 := fun k hk => ⟨(P2.out k hk).1, (P2.out k hk).2, by have := HP.out.ra.lt k hk; omega⟩
              a3 := fun k hk => ⟨P3.out k hk, by have := HP.out.rm.lt k hk; omega⟩
              a4 := fun e => by have := lX bx e; omega
              a5 := fun v hv k hk => by
                have h4 := P4.out v hv k hk
                obtain ⟨i, hi, rfl⟩ := List.getElem_of_mem hv
                obtain ⟨n', hn'⟩ := HP.out.ent i hi (by have := HP.out.len; omega)
                have := hn'.lt k hk
                exact ⟨h4.1, h4.2.1, h4.2.2.1, by omega⟩
              o1 := fun k hk => .inl hk
              o2 := fun k hk => .inl hk
              o3 := fun k hk => .inl hk }
        clear HR HF HR2 HF2 HW2 HL2 HP2 HBX HSL
        go_wp2_with fail
        obtain ⟨wst, rfl⟩ : ∃ wst : World, wst = wr := ⟨_, rfl⟩
        go_loopw [1, 6] (fun lv i wr => ∃ k : Nat, ∃ vb' vm' L' M', k ≤ 65 ∧ i = .int .i64 k ∧ LJ 4 mk4 m w b vb vm (.slice lo n lcap) (fun w1 a c => Lw w1 b text vf a c vn vk (cnt + 1)) bx (.cells #[.int .i64 m, .int .i64 m, .int .i64 0, .bool false] 48 (0, 0)) wr (n + k) lv vb' vm' (L ++ L') (M ++ M') ∧ L'.length = kept4 k ∧
          ∀ v ∈ L', (∀ k, v.ownBlock = some k → (Value.slice lo n lcap).ownBlock = some k ∨ w.heap.size ≤ k) ∧ ∀ a k c, v = .slice a k c → k ≤ n + 65) (fun _ i _ => 65 - (intOf i).toNat)
        case atStart => exact ⟨0, vb, vm, [], [], by omega, rfl, by rw [List.append_nil, List.append_nil]; exact HJ0.out, rfl, fun v hv => by cases hv⟩
        case round =>
          obtain ⟨k, vb', vm', L', M', hk65, rfl, hJ, hLk, hnew⟩ := hrel
          clear HJ0
          obtain ⟨co, cc, rfl⟩ := hJ.rw.form
          obtain ⟨q, hq⟩ : ∃ q, q = (L ++ L').length := ⟨_, rfl⟩
          obtain ⟨bo, bc, hvb⟩ := hJ.pr.ra.form
          obtain ⟨mo, mc, hvm⟩ := hJ.pr.rm.form
          rw [← hq] at hvb hvm
          subst hvb; subst hvm
          have HQ : Hid ((L ++ L').length = q) := hq.symm
          have hq2 : q ≤ 1000000004 := by
            rw [hq, List.length_append, hLk]
            have : kept4 k ≤ 4 := by unfold kept4; split; omega; split <;> omega
            omega
          have HJ : Hid _ := hJ
          have c2 : wr.cell? ⟨b, 2, none⟩ = some (.slice bo q bc) := by have := hJ.lw.cell 2; simpa using this
          have hbl2 := hJ.bl
          have HK : Hid (L'.length = kept4 k) := hLk
          have HN : Hid (∀ v ∈ L', (∀ k, v.ownBlock = some k → (Value.slice lo n lcap).ownBlock = some k ∨ w.heap.size ≤ k) ∧ ∀ a k c, v = .slice a k c → k ≤ n + 65) := hnew
          clear hJ hLk hnew hq
          by_cases hend : k ≤ 64
          · have kk2 : (k : Int) ≤ 64 := by omega
            by_cases hadd : k < 3 ∨ k = 64
            · have HK2 : Hid (kept4 (k + 1) = kept4 k + 1) := by
                unfold Hid
                rcases hadd with h | rfl
                · unfold kept4; rw [if_pos (by omega : k ≤ 2)]; split; rfl; rw [if_pos (by omega)]; omega
                · rfl
              have HJa : Hid _ := HJ.out.below ((Below.refl _ _).alloc (Nat.le_refl _) (.cells #[.slice co (n + k) cc] 38)) HS.out
              have HRa : Hid (Rw (wr.alloc (.cells #[.slice co (n + k) cc] 38)) 1 (.slice bo q bc) q (L ++ L')) := by have := HJa.out.pr.ra; rw [HQ.out] at this; exact this
              have HSa : Hid (Src Tryd.prog 1 66 (.slice (some ⟨wr.heap.size, 0, none⟩) 1 1) 1 [.slice co (n + k) cc] (wr.alloc (.cells #[.slice co (n + k) cc] 38))) := by
                exact srcR_new wr 66 38 Tryd.underlying66 #[.slice co (n + k) cc] 1 1 rfl (by intro u hu; simp at hu; rw [hu]; rfl)
              have hc3 : (3 : Int) ≤ (k : Int) ∧ (k : Int) = 64 ∨ (k : Int) < 3 := by omega
              clear hb1 hbl hadd
              rcases hc3 with ⟨a4, a5⟩ | a4
              all_goals
                go_wp2_with (at_builtin; refine wpList_append_rw rfl (.tmp 50) (.tmp 52) 66 66 rfl 38 _ 1 24 Tryd.underlying66 Tryd.infoSl rfl (.slice bo q bc) (.slice (some ⟨wr.heap.size, 0, none⟩) 1 1) q 1 (L ++ L') [.slice co (n + k) cc] rfl rfl HRa.out HSa.out (by decide) (by omega) (by omega) ?_; intro g1 cap1 w1 hr1 hg1 hp1; have HR1 : Hid (Rw w1 1 (.slice (some ⟨g1, 0, none⟩) (q + 1) cap1) (q + 1) (L ++ L' ++ [.slice co (n + k) cc])) := hr1; have HG1 : Hid (Gr (wr.alloc (.cells #[.slice co (n + k) cc] 38)) (.slice bo q bc) w1 (.slice (some ⟨g1, 0, none⟩) (q + 1) cap1)) := hg1; have HW1 : Hid (Lw w1 b text vf (.slice bo q bc) (.slice mo q mc) vn vk (cnt + 1)) := HJa.out.lw.of_block (hg1.block b HJa.out.bl (fun e => HJa.out.a1.1 e.symm)); clear hr1 hg1 hp1; have hb1 := HW1.out.lt; have e2 : w1.cell? ⟨b, 2, none⟩ = some (.slice bo q bc) := by { have := HW1.out.cell 2; simpa using this }; have e2f := HW1.out.free 2)
                have HF2 : Hid (Fr (fun k => k = b) w1 (w1.setCell ⟨b, 2, none⟩ (.slice (some ⟨g1, 0, none⟩) (q + 1) cap1))) := fr_setCell w1 ⟨b, 2, none⟩ _
                have HW2 : Hid (Lw (w1.setCell ⟨b, 2, none⟩ (.slice (some ⟨g1, 0, none⟩) (q + 1) cap1)) b text vf (.slice (some ⟨g1, 0, none⟩) (q + 1) cap1) (.slice mo q mc) vn vk (cnt + 1)) := HW1.out.setBlocks _
                generalize w1.setCell ⟨b, 2, none⟩ (.slice (some ⟨g1, 0, none⟩) (q + 1) cap1) = W2 at HF2 HW2 ⊢
                clear e2 e2f hb1 c2
                have hb2 := HW2.out.lt
                have e3 : W2.cell? ⟨b, 3, none⟩ = some (.slice mo q mc) := by have := HW2.out.cell 3; simpa using this
                have e6 : W2.cell? ⟨b, 6, none⟩ = some (.int .i64 ((cnt : Int) + 1)) := by have := HW2.out.cell 6; simpa using this
                have HBb : Hid (Below W2.heap.size W2 ((W2.alloc (.cells #[.int .i64 m] 3)).drew)) := ((Below.refl _ _).alloc (Nat.le_refl _) _).drew
                have HFb : Hid (Fr (fun k => k = b) w1 ((W2.alloc (.cells #[.int .i64 m] 3)).drew)) := HF2.out.then (below_fr HBb.out (fun k => k = b)) (fun _ _ h => h)
                have HRb : Hid (Rw ((W2.alloc (.cells #[.int .i64 m] 3)).drew) 1 (.slice mo q mc) q ((M ++ M').map (Value.int .i64))) := by have := HJa.out.mid HG1.out HFb.out; rw [HQ.out] at this; exact this
                have HSb : Hid (Src Tryd.prog 1 53 (.slice (some ⟨W2.heap.size, 0, none⟩) 1 1) 1 [.int .i64 m] ((W2.alloc (.cells #[.int .i64 m] 3)).drew)) := by
                  exact srcR_new W2.drew 53 3 Tryd.underlying53 #[.int .i64 m] 1 1 rfl (by intro u hu; simp at hu; rw [hu]; rfl)
                have HWb : Hid (Lw ((W2.alloc (.cells #[.int .i64 m] 3)).drew) b text vf (.slice (some ⟨g1, 0, none⟩) (q + 1) cap1) (.slice mo q mc) vn vk (cnt + 1)) := HW2.out.of_block (HBb.out.block b hb2)
                have HNb : Hid ((Value.slice mo q mc).ownBlock ≠ some b) := HJa.out.a1.2.1
                go_region_law ((refine step_append_rw (by rfl) (.tmp 60) (.tmp 66) 53 53 (by rfl) 3 _ 1 8 Tryd.underlying53 Tryd.infoI (by rfl) (.slice mo q mc) (.slice (some ⟨W2.heap.size, 0, none⟩) 1 1) q 1 ((M ++ M').map (Value.int .i64)) [.int .i64 m] (by rfl) (by rfl) HRb.out HSb.out (by decide) (by omega) (by omega) ?_; intro g3 cap3 w3 hr3 hg3; have HR3 : Hid (Rw w3 1 (.slice (some ⟨g3, 0, none⟩) (q + 1) cap3) (q + 1) ((M ++ M').map (Value.int .i64) ++ [.int .i64 m])) := hr3; have HG3 : Hid (Gr ((W2.alloc (.cells #[.int .i64 m] 3)).drew) (.slice mo q mc) w3 (.slice (some ⟨g3, 0, none⟩) (q + 1) cap3)) := hg3; have HW3 : Hid (Lw w3 b text vf (.slice (some ⟨g1, 0, none⟩) (q + 1) cap1) (.slice mo q mc) vn vk (cnt + 1)) := HWb.out.of_block (hg3.block b HWb.out.lt (fun e => HNb.out e.symm)); clear hr3 hg3; have hb3 := HW3.out.lt; have e3 : w3.cell? ⟨b, 3, none⟩ = some (.slice mo q mc) := by { have := HW3.out.cell 3; simpa using this }; have e3f := HW3.out.free 3))
                all_goals
                  clear e3f e3 hb3
                  have HJ4 : Hid (LJ 4 mk4 m w b vb vm (.slice lo n lcap) (fun w1 a c => Lw w1 b text vf a c vn vk (cnt + 1)) bx (.cells #[.int .i64 m, .int .i64 m, .int .i64 0, .bool false] 48 (0, 0)) (w3.setCell ⟨b, 3, none⟩ (.slice (some ⟨g3, 0, none⟩) (q + 1) cap3)) (n + k) (.slice co (n + k) cc) (.slice (some ⟨g1, 0, none⟩) (q + 1) cap1) (.slice (some ⟨g3, 0, none⟩) (q + 1) cap3) (L ++ L' ++ [.slice co (n + k) cc]) (M ++ M' ++ [m])) :=
                    HJa.out.add HS.out (by rw [HQ.out]; exact HR1.out) HG1.out HFb.out (fun _ => HWb.out) (by rw [HQ.out]; exact HR3.out) HG3.out (fr_setCell w3 ⟨b, 3, none⟩ _) (fun _ => HW3.out.setBm _)
                  generalize w3.setCell ⟨b, 3, none⟩ (.slice (some ⟨g3, 0, none⟩) (q + 1) cap3) = W4 at HJ4 ⊢
                  clear hb2
                  have hb4 := HJ4.out.bl
                  have hx4 := HJ4.out.bxlt
                  have x0 : W4.cell? ⟨bx, 0, none⟩ = some (.int .i64 m) := by simp [World.cell?, HJ4.out.box]
                  have x1 : W4.cell? ⟨bx, 1, none⟩ = some (.int .i64 m) := by simp [World.cell?, HJ4.out.box]
                  have x2 : W4.cell? ⟨bx, 2, none⟩ = some (.int .i64 0) := by simp [World.cell?, HJ4.out.box]
                  have x3 : W4.cell? ⟨bx, 3, none⟩ = some (.bool false) := by simp [World.cell?, HJ4.out.box]
                  have HJ5 : Hid _ := HJ4.out.below ((Below.refl _ _).alloc (Nat.le_refl _) (.cells #[.int .i64 m, .int .i64 m, .int .i64 0, .bool false] 48)) HS.out
                  have HS5 : Hid (Src Tryd.prog 4 38 (.slice (some ⟨W4.heap.size, 0, none⟩) 1 1) 1 (mk4 m) (W4.alloc (.cells #[.int .i64 m, .int .i64 m, .int .i64 0, .bool false] 48))) := by
                    exact srcR_new W4 38 48 Tryd.underlying38 #[.int .i64 m, .int .i64 m, .int .i64 0, .bool false] 4 1 rfl (by intro u hu; simp at hu; rcases hu with rfl | rfl | rfl <;> rfl)
                  go_wp2_with (at_builtin; refine wpList_append_rw rfl (.tmp 70) (.tmp 72) 38 38 rfl 48 _ 4 32 Tryd.underlying38 Tryd.infoBl rfl (.slice co (n + k) cc) (.slice (some ⟨W4.heap.size, 0, none⟩) 1 1) (n + k) 1 (rep (n + k) (mk4 m)) (mk4 m) rfl rfl HJ5.out.rw HS5.out (by decide) (by omega) (by omega) ?_; intro g5 cap5 w5 hr5 hg5 hp5; have HJ6 : Hid _ := HJ5.out.growL HS.out hr5 hg5 hp5; clear hr5 hg5 hp5)
                  go_roundw
                  case rel =>
                    refine ⟨k + 1, _, _, L' ++ [.slice co (n + k) cc], M' ++ [m], by omega, by go_num, by rw [← List.append_assoc, ← List.append_assoc]; exact HJ6.out, by rw [List.length_append, HK.out, HK2.out]; rfl, fun v hv => ?_⟩
                    rcases List.mem_append.1 hv with hv | hv
                    · exact HN.out v hv
                    · rw [List.mem_singleton.1 hv]
                      exact ⟨fun k hk => HJa.out.o3 k hk, fun a k' c e => by cases e; omega⟩
                  case measure => simp [intOf]; omega
            · have HK2 : Hid (kept4 (k + 1) = kept4 k) := by
                unfold Hid kept4
                rw [if_neg (by omega), if_pos (by omega), if_neg (by omega), if_pos (by omega)]
              have a4 : ¬ (k : Int) < 3 := by omega
              have a5 : ¬ (k : Int) = 64 := by omega
              have HJ4 := HJ
              clear hb1 hbl hadd c2
              have hb4 := HJ4.out.bl
              have hx4 := HJ4.out.bxlt
              have x0 : wr.cell? ⟨bx, 0, none⟩ = some (.int .i64 m) := by simp [World.cell?, HJ4.out.box]
              have x1 : wr.cell? ⟨bx, 1, none⟩ = some (.int .i64 m) := by simp [World.cell?, HJ4.out.box]
              have x2 : wr.cell? ⟨bx, 2, none⟩ = some (.int .i64 0) := by simp [World.cell?, HJ4.out.box]
              have x3 : wr.cell? ⟨bx, 3, none⟩ = some (.bool false) := by simp [World.cell?, HJ4.out.box]
              have HJ5 : Hid _ := HJ4.out.below ((Below.refl _ _).alloc (Nat.le_refl _) (.cells #[.int .i64 m, .int .i64 m, .int .i64 0, .bool false] 48)) HS.out
              have HS5 : Hid (Src Tryd.prog 4 38 (.slice (some ⟨wr.heap.size, 0, none⟩) 1 1) 1 (mk4 m) (wr.alloc (.cells #[.int .i64 m, .int .i64 m, .int .i64 0, .bool false] 48))) := by
                exact srcR_new wr 38 48 Tryd.underlying38 #[.int .i64 m, .int .i64 m, .int .i64 0, .bool false] 4 1 rfl (by intro u hu; simp at hu; rcases hu with rfl | rfl | rfl <;> rfl)
              go_wp2_with (at_builtin; refine wpList_append_rw rfl (.tmp 70) (.tmp 72) 38 38 rfl 48 _ 4 32 Tryd.underlying38 Tryd.infoBl rfl (.slice co (n + k) cc) (.slice (some ⟨wr.heap.size, 0, none⟩) 1 1) (n + k) 1 (rep (n + k) (mk4 m)) (mk4 m) rfl rfl HJ5.out.rw HS5.out (by decide) (by omega) (by omega) ?_; intro g5 cap5 w5 hr5 hg5 hp5; have HJ6 : Hid _ := HJ5.out.growL HS.out hr5 hg5 hp5; clear hr5 hg5 hp5)
              go_roundw
              case rel => exact ⟨k + 1, _, _, L', M', by omega, by go_num, HJ6.out, by rw [HK.out, HK2.out], HN.out⟩
              case measure => simp [intOf]; omega
          · have kk : ¬ (k : Int) ≤ 64 := by omega
            go_wp2_with fail
            go_end0
            obtain rfl : k = 65 := by omega
            exact ⟨rfl, bx, _, n + 65, _, _, _, L', ⟨M', HJ.out⟩, by rw [HK.out]; rfl, by omega, HN.out⟩
end Go.Proofs.YtjahkaggaijpjaaDoor
