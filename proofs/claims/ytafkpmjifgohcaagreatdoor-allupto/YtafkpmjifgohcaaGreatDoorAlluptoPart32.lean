/- The document's reading of one block: its packed bytes, and its data behind what there was.
The document's Upto: the data from the last fresh block on, or the first bad block. -/
import Derived.Test.YtafkpmjifgohcaaGreatDoorRefOpenA
import Derived.Test.YtafkpmjifgohcaaGreatDoorAlluptoPart1
import Derived.Test.YtafkpmjifgohcaaGreatDoorRefNum
import Derived.Test.YtafkpmjifgohcaaGreatDoorAlluptoPart15
import Derived.Test.YtafkpmjifgohcaaGreatDoorPureRead2
import Derived.Test.YtafkpmjifgohcaaGreatDoorAlluptoPart16
namespace Go.Proofs.YtafkpmjifgohcaaGreatDoor
open Go.RowKit

theorem refExt_sub (s : ByteArray) (a b : Nat) : s.extract a b = ⟨(Sk.sub s.data.toList a b).toArray⟩ := by
  apply ByteArray.ext
  apply Array.ext'
  simp [Sk.sub]

set_option maxRecDepth 100000 in
set_option maxHeartbeats 2000000 in
theorem refWhole_any (w : World) (B h : Nat) (s : ByteArray) (u : Value) (bs : List Sk.Blk) (d k : Nat) (hR : RFile w B h s u bs d) (hG : Sk.Good s.data.toList bs d) (hs : s.size ≤ 65536) (hk : k < bs.length) :
    Calls Tryz.prog 49 #[.pointer (some ⟨h, 0, none⟩), .int .i64 k] w fun e w' => e = .returned (.string ⟨(Sk.packedOf s.data.toList (Sk.bk bs k)).toArray⟩) ∧ w' = w := by
  obtain ⟨uo, ucap, rfl⟩ := hR.row.form
  obtain ⟨a, rfl, ha⟩ := hR.row.blk k hk
  have x2 := ha 2 (by decide)
  have c0 := hR.cell 0
  have c1 := hR.cell 1
  simp [Sk.Blk.cells] at x2
  simp at c0 c1
  obtain ⟨h1, h2⟩ := hG.ins k hk
  have hsz : s.data.toList.length = s.size := Array.length_toList
  have hn := Sk.numAt_lt s.data.toList 2 ((Sk.bk bs k).pos + 3)
  have he := refExt_sub s ((Sk.bk bs k).pos + 9) ((Sk.bk bs k).pos + 9 + Sk.numAt s.data.toList ((Sk.bk bs k).pos + 3) 2)
  rw [show (⟨(Sk.sub s.data.toList ((Sk.bk bs k).pos + 9) ((Sk.bk bs k).pos + 9 + Sk.numAt s.data.toList ((Sk.bk bs k).pos + 3) 2)).toArray⟩ : ByteArray) = ⟨(Sk.packedOf s.data.toList (Sk.bk bs k)).toArray⟩ from rfl] at he
  rw [← he]
  generalize hpo : (Sk.bk bs k).pos = po at *
  generalize hnn : Sk.numAt s.data.toList (po + 3) 2 = n at *
  have HNN : Hid (Sk.numAt s.data.toList (po + 3) 2 = n) := hnn
  have hkk : (k : Int) < (bs.length : Int) := by omega
  have hkn : (0 : Int) ≤ (k : Int) := by omega
  clear hR ha hG he hnn hpo
  go_enter Tryz.func49, Tryz.ntmps49
  go_wp2_with fail
  refine (refNum_at s _ _ (po + 3) 2 w (by omega) rfl (by omega) (by omega) (by omega)).mono ?_
  rw [HNN.out]
  rintro e w1 ⟨rfl, hw1⟩
  rw [hw1]
  clear hw1 w1
  go_wp2
  go_ret
  exact ⟨rfl, rfl⟩

theorem refExt_one (o : ByteArray) (a : Nat) (h : a < o.size) : (o ++ o.extract a (a + 1)).data.toList = o.data.toList ++ [Sk.gt o.data.toList a] := by
  have hl : o.data.toList.length = o.size := Array.length_toList
  rw [ByteArray.data_append, Array.toList_append, refExt_sub]
  show o.data.toList ++ (Sk.sub o.data.toList a (a + 1)).toArray.toList = _
  rw [List.toList_toArray, Sk.sub_succ _ a a (Nat.le_refl _) (Nat.lt_of_lt_of_eq h hl.symm), Sk.sub_self, List.nil_append]
theorem refExt_app (o p : ByteArray) (a b : Nat) : (o ++ p.extract a b).data.toList = o.data.toList ++ Sk.sub p.data.toList a b := by
  rw [ByteArray.data_append, Array.toList_append, refExt_sub]

set_option maxRecDepth 100000 in
set_option maxHeartbeats 4000000 in
theorem refUnpacked_any (p ahead : ByteArray) (size : Nat) (w : World) (hp : p.size ≤ 65536) (ha : ahead.size ≤ 30000) (hsz : size ≤ 2000) :
    Calls Tryz.prog 50 #[.string p, .string ahead, .int .i64 size] w fun e w' => (∀ o, Sk.unp p.data.toList size ahead.data.toList = some o → e = .returned (.tuple #[.string ⟨o.toArray⟩, .bool true])) ∧ (Sk.unp p.data.toList size ahead.data.toList = none → ∃ x, e = .returned (.tuple #[.string x, .bool false])) ∧ w' = w := by
  have hpl : p.data.toList.length = p.size := Array.length_toList
  have hal : ahead.data.toList.length = ahead.size := Array.length_toList
  obtain ⟨R, hR⟩ : ∃ R, R = Sk.unp p.data.toList size ahead.data.toList := ⟨_, rfl⟩
  rw [← hR]
  have HR : Hid (R = Sk.unp p.data.toList size ahead.data.toList) := hR
  clear hR
  go_enter Tryz.func50, Tryz.ntmps50
  go_wp2
  go_loop [8, 9] (fun x y => ∃ (o : ByteArray) (i f : Nat), x = .string o ∧ y = .int .i64 i ∧ i ≤ p.size ∧ p.size + 1 ≤ f + i ∧ o.size ≤ ahead.size + size ∧ ahead.size ≤ o.size ∧ Sk.unpN p.data.toList (ahead.size + size) f i o.data.toList = R) (fun _ y => p.size - (intOf y).toNat)
  case atStart =>
    refine ⟨ahead, 0, p.size + 1, rfl, rfl, by omega, by omega, by omega, Nat.le_refl _, ?_⟩
    rw [HR.out, Sk.unp, hal, hpl]
  case round =>
    obtain ⟨o, i, f, rfl, rfl, hi, hf, ho, hao, hinv⟩ := hrel
    have hol : o.data.toList.length = o.size := Array.length_toList
    obtain ⟨f', rfl⟩ : ∃ f', f = f' + 1 := ⟨f - 1, by omega⟩
    rw [Sk.unpN, hpl, hol] at hinv
    have HI : Hid ((if i < p.size then
      if (Sk.gt p.data.toList i).toNat < 128 then
        if p.size < i + 2 + (Sk.gt p.data.toList i).toNat then none
        else if ahead.size + size < o.size + ((Sk.gt p.data.toList i).toNat + 1) then none
        else Sk.unpN p.data.toList (ahead.size + size) f' (i + 2 + (Sk.gt p.data.toList i).toNat) (o.data.toList ++ Sk.sub p.data.toList (i + 1) (i + 2 + (Sk.gt p.data.toList i).toNat))
      else if p.size < i + 3 then none
      else if Sk.numAt p.data.toList (i + 1) 2 < 1 ∨ o.size < Sk.numAt p.data.toList (i + 1) 2 then none
      else if ahead.size + size < o.size + ((Sk.gt p.data.toList i).toNat - 128 + 4) then none
      else Sk.unpN p.data.toList (ahead.size + size) f' (i + 3) (Sk.cpy (Sk.numAt p.data.toList (i + 1) 2) ((Sk.gt p.data.toList i).toNat - 128 + 4) o.data.toList)
    else if o.size = ahead.size + size then some o.data.toList else none) = R) := hinv
    clear hinv
    by_cases hlt : i < p.size
    · have h1 := str_idx p i i rfl hlt
      have hb := UInt8.toNat_lt (Sk.gt p.data.toList i)
      generalize (Sk.gt p.data.toList i).toNat = c at *
      have HI2 := HI.out
      rw [if_pos hlt] at HI2
      clear HI
      have ili : (i : Int) < (p.size : Int) := by omega
      by_cases hc : c < 128
      · rw [if_pos hc] at HI2
        have hci : (c : Int) < 128 := by omega
        by_cases h2 : p.size < i + 2 + c
        · rw [if_pos h2] at HI2
          have h2i : (p.size : Int) < (i : Int) + 2 + c := by omega
          have HN : Hid (R = none) := HI2.symm
          clear HI2
          go_wp2
          go_ret2
          exact ⟨(fun o h => by rw [HN.out] at h; cases h), (fun _ => ⟨_, rfl⟩), rfl⟩
        · rw [if_neg h2] at HI2
          have h2i : (i : Int) + 2 + c ≤ (p.size : Int) := by omega
          have hz : (o ++ p.extract (i + 1) (i + 2 + c)).size = o.size + (c + 1) := by
            rw [ByteArray.size_append, ByteArray.size_extract]; omega
          have HX : Hid ((o ++ p.extract (i + 1) (i + 2 + c)).data.toList = o.data.toList ++ Sk.sub p.data.toList (i + 1) (i + 2 + c)) := refExt_app o p _ _
          by_cases h3 : ahead.size + size < o.size + (c + 1)
          · rw [if_pos h3] at HI2
            have HN : Hid (R = none) := HI2.symm
            clear HI2
            go_wp2
            go_ret2
            exact ⟨(fun o h => by rw [HN.out] at h; cases h), (fun _ => ⟨_, rfl⟩), rfl⟩
          · rw [if_neg h3] at HI2
            have HN : Hid (Sk.unpN p.data.toList (ahead.size + size) f' (i + 2 + c) (o.data.toList ++ Sk.sub p.data.toList (i + 1) (i + 2 + c)) = R) := HI2
            clear HI2
            go_wp2
            go_round
            case rel => exact ⟨o ++ p.extract (i + 1) (i + 2 + c), i + 2 + c, f', rfl, by go_num, by omega, by omega, by rw [hz]; omega, by rw [hz]; omega, by rw [HX.out]; exact HN.out⟩
            case measure => simp [intOf]; omega
      · rw [if_neg hc] at HI2
        have hci : (128 : Int) ≤ (c : Int) := by omega
        by_cases h2 : p.size < i + 3
        · rw [if_pos h2] at HI2
          have h2i : (p.size : Int) < (i : Int) + 3 := by omega
          have HN : Hid (R = none) := HI2.symm
          clear HI2
          go_wp2
          go_ret2
          exact ⟨(fun o h => by rw [HN.out] at h; cases h), (fun _ => ⟨_, rfl⟩), rfl⟩
        · rw [if_neg h2] at HI2
          have h2i : (i : Int) + 3 ≤ (p.size : Int) := by omega
          have hdl := Sk.numAt_lt p.data.toList 2 (i + 1)
          obtain ⟨dd, hdd⟩ : ∃ dd, dd = Sk.numAt p.data.toList (i + 1) 2 := ⟨_, rfl⟩
          rw [← hdd] at HI2 hdl
          have HDD : Hid (Sk.numAt p.data.toList (i + 1) 2 = dd) := hdd.symm
          have HI3 : Hid ((if dd < 1 ∨ o.size < dd then none
      else if ahead.size + size < o.size + (c - 128 + 4) then none
      else Sk.unpN p.data.toList (ahead.size + size) f' (i + 3) (Sk.cpy dd (c - 128 + 4) o.data.toList)) = R) := HI2
          clear hdd HI2
          go_wp2_with fail
          refine (refNum_at p _ _ (i + 1) 2 w (by omega) rfl (by omega) (by omega) (by omega)).mono ?_
          rw [HDD.out]
          rintro e w1 ⟨rfl, hw1⟩
          rw [hw1]
          clear hw1 w1
          by_cases h4 : dd < 1
          · have HN : Hid (R = none) := by
              have := HI3.out
              rw [if_pos (.inl h4)] at this
              exact this.symm
            have h4i : (dd : Int) < 1 := by omega
            clear HI3
            go_wp2
            go_ret2
            exact ⟨(fun o h => by rw [HN.out] at h; cases h), (fun _ => ⟨_, rfl⟩), rfl⟩
          · have h4i : (1 : Int) ≤ (dd : Int) := by omega
            by_cases h5 : o.size < dd
            · have HN : Hid (R = none) := by
                have := HI3.out
                rw [if_pos (.inr h5)] at this
                exact this.symm
              have h5i : (o.size : Int) < (dd : Int) := by omega
              clear HI3
              go_wp2
              go_ret2
              exact ⟨(fun o h => by rw [HN.out] at h; cases h), (fun _ => ⟨_, rfl⟩), rfl⟩
            · have h5i : (dd : Int) ≤ (o.size : Int) := by omega
              have HI4 : Hid ((if ahead.size + size < o.size + (c - 128 + 4) then none
      else Sk.unpN p.data.toList (ahead.size + size) f' (i + 3) (Sk.cpy dd (c - 128 + 4) o.data.toList)) = R) := by
                have := HI3.out
                rw [if_neg (by omega)] at this
                exact this
              clear HI3
              go_wp2
              go_loop [8, 12] (fun x y => ∃ (q : ByteArray) (m : Nat), x = .string q ∧ y = .int .i64 m ∧ dd ≤ q.size ∧ q.size + m = o.size + (c - 128 + 4) ∧ Sk.cpy dd m q.data.toList = Sk.cpy dd (c - 128 + 4) o.data.toList) (fun _ y => (intOf y).toNat)
              case atStart => exact ⟨o, c - 128 + 4, rfl, by congr 1; omega, by omega, rfl, rfl⟩
              case round =>
                obtain ⟨q, m, rfl, rfl, hq, hqm, hcp⟩ := hrel
                have HCP : Hid (Sk.cpy dd m q.data.toList = Sk.cpy dd (c - 128 + 4) o.data.toList) := hcp
                clear hcp
                have hql : q.data.toList.length = q.size := Array.length_toList
                by_cases hm : 0 < m
                · have hmi : (0 : Int) < (m : Int) := by omega
                  have hz : (q ++ q.extract (q.size - dd) (q.size - dd + 1)).size = q.size + 1 := by
                    rw [ByteArray.size_append, ByteArray.size_extract]; omega
                  have HX : Hid ((q ++ q.extract (q.size - dd) (q.size - dd + 1)).data.toList = q.data.toList ++ [Sk.gt q.data.toList (q.size - dd)]) := refExt_one q _ (by omega)
                  have HC2 : Hid (Sk.cpy dd (m - 1) (q.data.toList ++ [Sk.gt q.data.toList (q.size - dd)]) = Sk.cpy dd (c - 128 + 4) o.data.toList) := by
                    have := HCP.out
                    rw [show m = (m - 1) + 1 by omega, Sk.cpy, hql] at this
                    exact this
                  have k1 : (0 : Int) ≤ (q.size : Int) - (dd : Int) := by omega
                  have k2 : (q.size : Int) - (dd : Int) + 1 ≤ (q.size : Int) := by omega
                  go_wp2
                  go_round
                  case rel => exact ⟨q ++ q.extract (q.size - dd) (q.size - dd + 1), m - 1, by simp, by congr 1; omega, by rw [hz]; omega, by rw [hz]; omega, by rw [HX.out]; exact HC2.out⟩
                  case measure => simp [intOf]; omega
                · obtain rfl : m = 0 := by omega
                  have HQ : Hid (q.data.toList = Sk.cpy dd (c - 128 + 4) o.data.toList) := HCP.out
                  by_cases h7 : ahead.size + size < o.size + (c - 128 + 4)
                  · have HN : Hid (R = none) := by
                      have := HI4.out
                      rw [if_pos h7] at this
                      exact this.symm
                    have h7i : (size : Int) < (q.size : Int) - (ahead.size : Int) := by omega
                    clear HI4
                    go_wp2
                    go_ret2
                    exact ⟨(fun o h => by rw [HN.out] at h; cases h), (fun _ => ⟨_, rfl⟩), rfl⟩
                  · have HN : Hid (Sk.unpN p.data.toList (ahead.size + size) f' (i + 3) q.data.toList = R) := by
                      have := HI4.out
                      rw [if_neg h7, ← HQ.out] at this
                      exact this
                    have h7i : (q.size : Int) - (ahead.size : Int) ≤ (size : Int) := by omega
                    clear HI4
                    go_wp2
                    go_round
                    case rel => exact ⟨q, i + 3, f', rfl, by go_num, by omega, by omega, by omega, by omega, HN.out⟩
                    case measure => simp [intOf]; omega
    · have HN : Hid ((if o.size = ahead.size + size then some o.data.toList else none) = R) := by
        have := HI.out
        rw [if_neg hlt] at this
        exact this
      have hge : (p.size : Int) ≤ (i : Int) := by omega
      clear HI
      by_cases h6 : o.size = ahead.size + size
      · have h6i : ((o.size : Int) - (ahead.size : Int) == (size : Int)) = true := by rw [beq_iff_eq]; omega
        have H6 : Hid (o.size = ahead.size + size) := h6
        clear h6
        go_wp2
        go_ret2
        refine ⟨fun o' h => ?_, fun h => ?_, rfl⟩
        · have := HN.out
          rw [if_pos H6.out, h] at this
          cases this
          rw [show (⟨o.data.toList.toArray⟩ : ByteArray) = o from by apply ByteArray.ext; simp]
          rfl
        · have := HN.out
          rw [if_pos H6.out, h] at this
          cases this
      · have h6i : ((o.size : Int) - (ahead.size : Int) == (size : Int)) = false := by rw [beq_eq_false_iff_ne]; omega
        go_wp2
        go_ret2
        refine ⟨fun o' h => ?_, fun h => ⟨_, rfl⟩, rfl⟩
        have := HN.out
        rw [if_neg h6, h] at this
        cases this

set_option maxHeartbeats 2000000 in
/-- In which block a byte is. -/
theorem refOf_any (w : World) (B h : Nat) (s : ByteArray) (u : Value) (bs : List Sk.Blk) (d k p : Nat) (hR : RFile w B h s u bs d) (hG : Sk.Good s.data.toList bs d) (hl : bs.length ≤ 20000) (hp : p ≤ 20000) (hk : k < bs.length ∧ (Sk.bk bs k).frm ≤ p ∧ p < (Sk.bk bs k).frm + (Sk.bk bs k).size) :
    Calls Tryz.prog 29 #[.pointer (some ⟨h, 0, none⟩), .int .i64 p] w fun e w' => e = .returned (.int .i64 k) ∧ Below w.heap.size w w' := by
  obtain ⟨k0, k1, k2⟩ := hk
  obtain ⟨uo, ucap, rfl⟩ := hR.row.form
  have c1 := hR.cell 1
  simp at c1
  have hdd := hG.dat
  have hlt := hR.lt
  have HR : Hid (RFile w B h s (.slice uo bs.length ucap) bs d) := hR
  have HG : Hid (Sk.Good s.data.toList bs d) := hG
  clear hR hG
  go_enter Tryz.func29, Tryz.ntmps29
  go_wp2
  go_loopw [5] (fun i wr => ∃ j : Nat, j ≤ k ∧ i = .int .i64 j ∧ Below w.heap.size w wr) (fun i _ => k - (intOf i).toNat)
  case atStart => exact ⟨0, by omega, rfl, Below.refl _ _⟩
  case round =>
    obtain ⟨j, hj, rfl, hbel⟩ := hrel
    have HB : Hid (Below w.heap.size w wr) := hbel
    obtain ⟨a, rfl, ha⟩ := (HR.out.below hbel).row.blk j (by omega)
    have x0 := ha 0 (by decide)
    have x1 := ha 1 (by decide)
    simp [Sk.Blk.cells] at x0 x1
    have e1 := (hbel.cell (p := ⟨h, 1, none⟩) hlt).trans c1
    have hfl : (Sk.bk bs j).frm ≤ p := by
      have h4 := HG.out.frm_le j (k - j) (by omega)
      rw [show j + (k - j) = k by omega] at h4
      omega
    have hsl := HG.out.siz j (by omega)
    have hjj : (j : Int) < (bs.length : Int) := by omega
    clear hbel ha
    by_cases hjk : j < k
    · have hup : (Sk.bk bs j).frm + (Sk.bk bs j).size ≤ p := by
        have h3 := HG.out.nxt j (by omega)
        have h4 := HG.out.frm_le (j + 1) (k - (j + 1)) (by omega)
        rw [show j + 1 + (k - (j + 1)) = k by omega] at h4
        omega
      generalize (Sk.bk bs j).frm = fr at *
      generalize (Sk.bk bs j).size = sz at *
      have hupi : (fr : Int) + (sz : Int) ≤ (p : Int) := by omega
      go_wp2_with fail
      go_quiet (fail)
      go_wp2
      go_roundw
      case rel => exact ⟨j + 1, by omega, by go_num, below_drewN HB.out _⟩
      case measure => simp [intOf]; omega
    · obtain rfl : j = k := by omega
      generalize (Sk.bk bs j).frm = fr at *
      generalize (Sk.bk bs j).size = sz at *
      have hupi : (p : Int) < (fr : Int) + (sz : Int) := by omega
      go_wp2_with fail
      go_quiet (fail)
      go_wp2
      go_ret
      exact ⟨rfl, below_drewN HB.out _⟩
end Go.Proofs.YtafkpmjifgohcaaGreatDoor

namespace Go.Proofs.YtafkpmjifgohcaaGreatDoor
open Go.RowKit

theorem results_four {fn : Func} {a b c d : Tmp} (h : fn.results = #[.tmp a, .tmp b, .tmp c, .tmp d]) (tmps : Array Value) (P : Program) (w : World) :
    (results fn tmps).run P w = .ok (.tuple #[tmps.getD a undef, tmps.getD b undef, tmps.getD c undef, tmps.getD d undef]) w := by
  simp [results, h]

theorem Sk.lastF_mid (bs : List Sk.Blk) : ∀ k j, Sk.lastF bs k < j → j ≤ k → (Sk.bk bs j).fresh = false
  | 0, j, h1, h2 => by have : Sk.lastF bs 0 ≤ 0 := Sk.lastF_le bs 0; omega
  | k + 1, j, h1, h2 => by
    cases hf : (Sk.bk bs (k + 1)).fresh with
    | true => rw [Sk.lastF_of_fresh bs (k + 1) hf] at h1; omega
    | false =>
      rw [Sk.lastF_not_fresh bs k hf] at h1
      by_cases e : j = k + 1
      · rw [e, hf]
      · exact Sk.lastF_mid bs k j h1 (by omega)
theorem Sk.upto_on (s : List UInt8) (bs : List Sk.Blk) (k : Nat) (why j : Nat) : ∀ m i, i + m = k → Sk.lastF bs k ≤ i → Sk.upto s bs i = .bad why j → Sk.upto s bs k = .bad why j
  | 0, i, h1, _, h => by rw [← h1]; exact h
  | m + 1, i, h1, h2, h => Sk.upto_on s bs k why j m (i + 1) (by omega) (by omega) (Sk.upto_stay s bs i (Sk.lastF_mid bs k (i + 1) (by omega) (by omega)) why j h)

theorem Sk.Good.most {s : List UInt8} {bs : List Sk.Blk} {d : Nat} (h : Sk.Good s bs d) (k : Nat) (hk : k < bs.length) : (Sk.bk bs k).frm + (Sk.bk bs k).size ≤ d := by
  have hlast := h.lst (bs.length - 1) (by omega)
  by_cases hl : k + 1 < bs.length
  · have h1 := h.nxt k hl
    have h2 := h.frm_le (k + 1) (bs.length - 1 - (k + 1)) (by omega)
    rw [show k + 1 + (bs.length - 1 - (k + 1)) = bs.length - 1 by omega] at h2
    omega
  · rw [show k = bs.length - 1 by omega]
    omega

set_option maxRecDepth 100000 in
set_option maxHeartbeats 4000000 in
theorem refUpto_any (w : World) (B h : Nat) (s : ByteArray) (u : Value) (bs : List Sk.Blk) (d k : Nat) (hR : RFile w B h s u bs d) (hG : Sk.Good s.data.toList bs d) (hs : s.size ≤ 65536) (hl : bs.length ≤ 20000) (hk : k < bs.length) :
    Calls Tryz.prog 30 #[.pointer (some ⟨h, 0, none⟩), .int .i64 k] w fun e w' => Below w.heap.size w w' ∧
      (∀ o, Sk.upto s.data.toList bs k = .good o → e = .returned (.tuple #[.string ⟨o.toArray⟩, .int .i64 (Sk.bk bs (Sk.lastF bs k)).frm, .int .i64 0, .int .i64 0])) ∧
      (∀ why j, Sk.upto s.data.toList bs k = .bad why j → e = .returned (.tuple #[.string ⟨#[]⟩, .int .i64 0, .int .i64 j, .int .i64 why])) := by
  obtain ⟨uo, ucap, rfl⟩ := hR.row.form
  obtain ⟨a, rfl, _⟩ := hR.row.blk k hk
  have c0 := hR.cell 0
  have c1 := hR.cell 1
  simp at c0 c1
  have hlt := hR.lt
  have hsz : s.data.toList.length = s.size := Array.length_toList
  have HR : Hid (RFile w B h s (.slice (some ⟨a, 0, none⟩) bs.length ucap) bs d) := hR
  have HG : Hid (Sk.Good s.data.toList bs d) := hG
  have HBK : Hid (∀ j, j < bs.length → ∀ i, i < 4 → w.cell? ⟨a, j * 4 + i, none⟩ = (Sk.bk bs j).cells[i]?) := fun j hj => by
    obtain ⟨a', e, h'⟩ := hR.row.blk j hj
    cases e
    exact h'
  obtain ⟨G, hGo⟩ : ∃ G, G = Sk.upto s.data.toList bs k := ⟨_, rfl⟩
  rw [← hGo]
  have HGO : Hid (Sk.upto s.data.toList bs k = G) := hGo.symm
  clear hR hG hGo
  go_enter Tryz.func30, Tryz.ntmps30
  go_wp2
  go_loop [8] (fun i => ∃ j : Nat, j ≤ k ∧ i = .int .i64 j ∧ Sk.lastF bs j = Sk.lastF bs k) (fun i => (intOf i).toNat)
  case atStart => exact ⟨k, Nat.le_refl _, rfl, rfl⟩
  case round =>
    obtain ⟨j, hj, rfl, hinv⟩ := hrel
    have HI : Hid (Sk.lastF bs j = Sk.lastF bs k) := hinv
    clear hinv
    have x3 := HBK.out j (by omega) 3 (by decide)
    simp [Sk.Blk.cells] at x3
    have kk : (j : Int) < (bs.length : Int) := by omega
    cases hf : (Sk.bk bs j).fresh with
    | false =>
      rw [hf] at x3
      have hj0 : 0 < j := by
        rcases Nat.eq_zero_or_pos j with e | e
        · subst e; rw [(HG.out.fst (by omega)).1] at hf; cases hf
        · exact e
      have HL : Hid (Sk.lastF bs (j - 1) = Sk.lastF bs k) := by
        show _ = _
        have := Sk.lastF_not_fresh bs (j - 1) (by rw [show j - 1 + 1 = j by omega]; exact hf)
        rw [show j - 1 + 1 = j by omega] at this
        exact this.symm.trans HI.out
      clear hf
      go_wp2
      go_round
      case rel => exact ⟨j - 1, by omega, by congr 1; omega, HL.out⟩
      case measure => simp [intOf]; omega
    | true =>
      rw [hf] at x3
      have hL : Sk.lastF bs k = j := by rw [← HI.out]; exact Sk.lastF_of_fresh bs j hf
      rw [hL]
      have HL : Hid (Sk.lastF bs k = j) := hL
      have HFR : Hid ((Sk.bk bs j).fresh = true) := hf
      clear hf hL HI
      go_wp2
      go_loopw [9, 10] (fun x i wr => ∃ (o : ByteArray) (m : Nat), x = .string o ∧ i = .int .i64 ((j : Int) + m) ∧ Below w.heap.size w wr ∧ j + m ≤ k + 1 ∧ (m = 0 → o.size = 0) ∧ (0 < m → o.size + (Sk.bk bs j).frm = (Sk.bk bs (j + m - 1)).frm + (Sk.bk bs (j + m - 1)).size ∧ Sk.upto s.data.toList bs (j + m - 1) = .good o.data.toList)) (fun _ i _ => k + 1 - (intOf i).toNat)
      case atStart => exact ⟨⟨#[]⟩, 0, rfl, by go_num, Below.refl _ _, by omega, (fun _ => rfl), fun h => absurd h (by decide)⟩
      case round =>
        obtain ⟨o, m, rfl, rfl, hbel, hjm, hm0, hm1⟩ := hrel
        have HB : Hid (Below w.heap.size w wr) := hbel
        have HM0 : Hid (m = 0 → o.size = 0) := hm0
        have HM1 : Hid (0 < m → o.size + (Sk.bk bs j).frm = (Sk.bk bs (j + m - 1)).frm + (Sk.bk bs (j + m - 1)).size ∧ Sk.upto s.data.toList bs (j + m - 1) = .good o.data.toList) := hm1
        have hol : o.data.toList.length = o.size := Array.length_toList
        have hdat := HG.out.dat
        have hoz : o.size ≤ 20000 := by
          rcases Nat.eq_zero_or_pos m with e | e
          · rw [hm0 e]; omega
          · have := (hm1 e).1
            have := HG.out.most (j + m - 1) (by omega)
            omega
        clear hbel hm0 hm1
        by_cases hlast : j + m ≤ k
        · have hi : (j : Int) + (m : Int) ≤ (k : Int) := by omega
          have kk : (j : Int) + (m : Int) < (bs.length : Int) := by omega
          have hs4 := HG.out.siz (j + m) (by omega)
          obtain ⟨hi1, hi2⟩ := HG.out.ins (j + m) (by omega)
          have HAT : Hid (Sk.upto s.data.toList bs (j + m) = Sk.atB s.data.toList (Sk.bk bs (j + m)) (j + m) o.data.toList) := by
            rcases Nat.eq_zero_or_pos m with e | e
            · have ho : o.data.toList = [] := by
                apply List.eq_nil_of_length_eq_zero
                rw [hol, HM0.out e]
              subst e
              rw [ho]
              exact Sk.upto_fresh _ _ _ HFR.out
            · have h1 := (HM1.out e).2
              have hnf := Sk.lastF_mid bs k (j + m) (by rw [HL.out]; omega) hlast
              have := Sk.upto_step s.data.toList bs (j + m - 1) (by rw [show j + m - 1 + 1 = j + m by omega]; exact hnf) _ h1
              rw [show j + m - 1 + 1 = j + m by omega] at this
              exact this
          have e0 := (HB.out.cell (p := ⟨h, 0, none⟩) hlt).trans c0
          have e1 := (HB.out.cell (p := ⟨h, 1, none⟩) hlt).trans c1
          have x1 := HBK.out (j + m) (by omega) 1 (by decide)
          have x2 := HBK.out (j + m) (by omega) 2 (by decide)
          simp [Sk.Blk.cells] at x1 x2
          have y1 := (HB.out.cell (p := ⟨a, (j + m) * 4 + 1, none⟩) (cell_lt x1)).trans x1
          have y2 := (HB.out.cell (p := ⟨a, (j + m) * 4 + 2, none⟩) (cell_lt x2)).trans x2
          clear x1 x2
          have hpl : (Sk.packedOf s.data.toList (Sk.bk bs (j + m))).length ≤ 65536 := by
            unfold Sk.packedOf
            rw [Sk.sub_length _ _ _ hi2]
            omega
          have HW : Hid (∀ W, Below w.heap.size w W → Calls Tryz.prog 49 #[.pointer (some ⟨h, 0, none⟩), .int .i64 ((j : Int) + (m : Int))] W fun e w' => e = .returned (.string ⟨(Sk.packedOf s.data.toList (Sk.bk bs (j + m))).toArray⟩) ∧ w' = W) := fun W hW => by
            have := refWhole_any W B h s _ bs d (j + m) (HR.out.below hW) HG.out hs (by omega)
            rw [show (((j + m : Nat)) : Int) = (j : Int) + (m : Int) by omega] at this
            exact this
          go_wp2_with fail
          refine (HW.out wr HB.out).mono ?_
          rintro e w1 ⟨rfl, hw1⟩
          rw [hw1]
          clear hw1 w1
          obtain ⟨P, hP⟩ : ∃ P : ByteArray, P = ⟨(Sk.packedOf s.data.toList (Sk.bk bs (j + m))).toArray⟩ := ⟨_, rfl⟩
          have hPl : P.data.toList = Sk.packedOf s.data.toList (Sk.bk bs (j + m)) := by rw [hP]
          have hPz : P.size ≤ 65536 := by
            have : P.data.toList.length = P.size := Array.length_toList
            rw [← this, hPl]
            exact hpl
          rw [← hP]
          have HPL : Hid (P.data.toList = Sk.packedOf s.data.toList (Sk.bk bs (j + m))) := hPl
          clear hP hPl hpl HW
          go_wp2_with fail
          refine (refSum_any P wr (by omega)).mono ?_
          rw [HPL.out]
          rintro e w1 ⟨rfl, hw1⟩
          rw [hw1]
          clear hw1 w1
          obtain ⟨po, hpo⟩ : ∃ po, po = (Sk.bk bs (j + m)).pos := ⟨_, rfl⟩
          obtain ⟨sm, hsm⟩ : ∃ sm, sm = Sk.sumOf (Sk.packedOf s.data.toList (Sk.bk bs (j + m))) := ⟨_, rfl⟩
          obtain ⟨nm, hnm⟩ : ∃ nm, nm = Sk.numAt s.data.toList (po + 5) 4 := ⟨_, rfl⟩
          rw [← hsm]
          rw [← hpo] at y2 hi1 hi2
          have HNM : Hid (Sk.numAt s.data.toList (po + 5) 4 = nm) := hnm.symm
          have HAT2 : Hid (Sk.upto s.data.toList bs (j + m) = if sm = nm then (match Sk.unp P.data.toList (Sk.bk bs (j + m)).size o.data.toList with
            | none => .bad 7 (j + m)
            | some o => .good o) else .bad 6 (j + m)) := by
            show _ = _
            rw [HAT.out, Sk.atB, ← hsm, ← hpo, ← hnm, HPL.out]
            rfl
          obtain ⟨sz, hszz⟩ : ∃ sz, sz = (Sk.bk bs (j + m)).size := ⟨_, rfl⟩
          rw [← hszz] at y1 hs4 HAT2
          have HSZ : Hid ((Sk.bk bs (j + m)).size = sz) := hszz.symm
          have hwr5 : IntKind.i64.wrap ((po : Int) + 5) = (po : Int) + 5 := IntWalk.i64_in _ (by omega)
          have hj0 : (0 : Int) ≤ (j : Int) + (m : Int) := by omega
          have htn : ((j : Int) + (m : Int)).toNat = j + m := by omega
          clear hpo hsm hnm HAT hszz
          by_cases hsum : sm = nm
          · subst hsum
            have HAT3 : Hid (Sk.upto s.data.toList bs (j + m) = (match Sk.unp P.data.toList sz o.data.toList with
              | none => .bad 7 (j + m)
              | some o => .good o)) := by
              have := HAT2.out
              rw [if_pos rfl] at this
              exact this
            clear HAT2
            go_wp2_with fail
            go_region_held3 (fun w' => w'.cell? ⟨h, 0, none⟩ = some (.string s) ∧ w'.cell? ⟨h, 1, none⟩ = some (.slice (some ⟨a, 0, none⟩) bs.length ucap) ∧ w'.cell? ⟨a, (j + m) * 4 + 2, none⟩ = some (.int .i64 po)) (go_keep) ((go_at_call 44; refine (refNum_at s _ _ (po + 5) 4 _ (by omega) rfl (by omega) (by omega) (by omega)).mono ?_; rw [HNM.out]; rintro e w' ⟨rfl, rfl⟩))
            go_wp2_with fail
            refine (refUnpacked_any P o sz wr.drew hPz (by omega) (by omega)).mono ?_
            rintro e w1 ⟨r1, r2, hw1⟩
            rw [hw1]
            clear hw1 w1
            cases hun : Sk.unp P.data.toList sz o.data.toList with
            | none =>
              obtain ⟨x, rfl⟩ := r2 hun
              have HBD : Hid (Sk.upto s.data.toList bs (j + m) = .bad 7 (j + m)) := by
                have := HAT3.out
                rw [hun] at this
                exact this
              have HGB : Hid (G = .bad 7 (j + m)) := HGO.out.symm.trans (Sk.upto_on s.data.toList bs k 7 (j + m) (k - (j + m)) (j + m) (by omega) (by rw [HL.out]; omega) HBD.out)
              clear r1 r2 hun HAT3
              go_wp2
              refine bodyPost_ret (results_four rfl _ _ _) rfl ?_
              exact ⟨HB.out.drew, (fun o h => by rw [HGB.out] at h; cases h), fun why' j' h => by rw [HGB.out] at h; cases h; rfl⟩
            | some o2 =>
              obtain rfl := r1 o2 hun
              obtain ⟨t, ht1, ht2⟩ := Sk.unp_some hun
              have HUP : Hid (Sk.upto s.data.toList bs (j + m) = .good o2) := by
                have := HAT3.out
                rw [hun] at this
                exact this
              have hz2 : (⟨o2.toArray⟩ : ByteArray).size = o.size + sz := by
                show o2.toArray.size = _
                rw [List.size_toArray, ht1, List.length_append, hol, ht2]
              have HZ2 : Hid ((⟨o2.toArray⟩ : ByteArray).size = o.size + sz) := hz2
              clear r1 r2 hun HAT3 ht1 ht2 hz2
              go_wp2
              go_roundw
              case rel =>
                refine ⟨⟨o2.toArray⟩, m + 1, rfl, by go_num, HB.out.drew, by omega, (fun h => absurd h (by omega)), fun _ => ⟨?_, ?_⟩⟩
                · rw [HZ2.out, show j + (m + 1) - 1 = j + m by omega, HSZ.out]
                  rcases Nat.eq_zero_or_pos m with e | e
                  · rw [HM0.out e, e, Nat.add_zero]; omega
                  · have h1 := (HM1.out e).1
                    have h2 := HG.out.nxt (j + m - 1) (by omega)
                    rw [show j + m - 1 + 1 = j + m by omega] at h2
                    omega
                · rw [show j + (m + 1) - 1 = j + m by omega]
                  exact HUP.out
              case measure => simp [intOf]; omega
          · have hne : ((sm : Int) == (nm : Int)) = false := by rw [beq_eq_false_iff_ne]; omega
            have HBD : Hid (Sk.upto s.data.toList bs (j + m) = .bad 6 (j + m)) := by
              have := HAT2.out
              rw [if_neg hsum] at this
              exact this
            have HGB : Hid (G = .bad 6 (j + m)) := HGO.out.symm.trans (Sk.upto_on s.data.toList bs k 6 (j + m) (k - (j + m)) (j + m) (by omega) (by rw [HL.out]; omega) HBD.out)
            clear HAT2
            go_wp2_with fail
            go_region_held3 (fun w' => w'.cell? ⟨h, 0, none⟩ = some (.string s) ∧ w'.cell? ⟨h, 1, none⟩ = some (.slice (some ⟨a, 0, none⟩) bs.length ucap) ∧ w'.cell? ⟨a, (j + m) * 4 + 2, none⟩ = some (.int .i64 po)) (go_keep) ((go_at_call 44; refine (refNum_at s _ _ (po + 5) 4 _ (by omega) rfl (by omega) (by omega) (by omega)).mono ?_; rw [HNM.out]; rintro e w' ⟨rfl, rfl⟩))
            go_wp2
            refine bodyPost_ret (results_four rfl _ _ _) rfl ?_
            exact ⟨HB.out.drew, (fun o h => by rw [HGB.out] at h; cases h), fun why' j' h => by rw [HGB.out] at h; cases h; rfl⟩
        · have hjk : j + m - 1 = k := by omega
          have HGG : Hid (G = .good o.data.toList) := by
            have := (HM1.out (by omega)).2
            rw [hjk, HGO.out] at this
            exact this
          have x0 := HBK.out j (by omega) 0 (by decide)
          simp [Sk.Blk.cells] at x0
          have y0 := (HB.out.cell (p := ⟨a, j * 4, none⟩) (cell_lt x0)).trans x0
          have e1 := (HB.out.cell (p := ⟨h, 1, none⟩) hlt).trans c1
          have hi : (k : Int) < (j : Int) + (m : Int) := by omega
          have kk : (j : Int) < (bs.length : Int) := by omega
          clear x0
          go_wp2_with fail
          go_quiet (fail)
          go_wp2
          refine bodyPost_ret (results_four rfl _ _ _) rfl ?_
          refine ⟨below_drewN HB.out _, fun o' h => ?_, fun why' j' h => by rw [HGG.out] at h; cases h⟩
          rw [HGG.out] at h
          cases h
          rw [show (⟨o.data.toList.toArray⟩ : ByteArray) = o from by apply ByteArray.ext; simp, HL.out]
          rfl
end Go.Proofs.YtafkpmjifgohcaaGreatDoor
