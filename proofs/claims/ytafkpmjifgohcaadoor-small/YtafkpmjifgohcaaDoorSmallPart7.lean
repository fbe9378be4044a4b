/- skipper.Pack answers as the document's function: the file, or the size error. -/
import Derived.Test.YtafkpmjifgohcaaDoorPackBlk
namespace Go.Proofs.YtafkpmjifgohcaaDoor
open Go.RowKit

/-- What Pack answers: the file's bytes, or none (the size error). -/
def packOut (l : List UInt8) (B E : Int) : Option (List UInt8) :=
  if l.length ≤ 20000 ∧ 1 ≤ B ∧ B ≤ 1024 ∧ 1 ≤ E ∧ E ≤ 100 then (if (Sk.fileOf l B.toNat E.toNat).length ≤ 65536 then some (Sk.fileOf l B.toNat E.toNat) else none) else none

/-- The tests of Pack, in their order. -/
theorem pack_cases (n : Nat) (B E : Int) (h : ¬ (n ≤ 20000 ∧ 1 ≤ B ∧ B ≤ 1024 ∧ 1 ≤ E ∧ E ≤ 100)) :
    (20000 : Int) < n ∨ ((n : Int) ≤ 20000 ∧ B < 1) ∨ ((n : Int) ≤ 20000 ∧ 1 ≤ B ∧ 1024 < B) ∨ ((n : Int) ≤ 20000 ∧ 1 ≤ B ∧ B ≤ 1024 ∧ E < 1) ∨ ((n : Int) ≤ 20000 ∧ 1 ≤ B ∧ B ≤ 1024 ∧ 1 ≤ E ∧ 100 < E) := by omega

def errVal (a : Addr) : Value := .iface 170 (.pointer (some a))

set_option maxHeartbeats 800000 in
theorem pack_bad (s : ByteArray) (B E : Int) (a : Addr) (w : World) (ha : w.cell? ⟨0, 0, none⟩ = some (.iface 170 (.pointer (some a)))) (h : ¬ (s.size ≤ 20000 ∧ 1 ≤ B ∧ B ≤ 1024 ∧ 1 ≤ E ∧ E ≤ 100)) :
    Calls Tryd.prog 34 #[.string s, .int .i64 B, .int .i64 E] w fun e w' => e = .returned (.tuple #[.string ⟨#[]⟩, errVal a]) ∧ Below w.heap.size w w' := by
  have hc := pack_cases s.size B E h
  clear h
  rcases hc with h1 | ⟨h1, h2⟩ | ⟨h1, h2, h3⟩ | ⟨h1, h2, h3, h4⟩ | ⟨h1, h2, h3, h4, h5⟩
  all_goals
    go_enter Tryd.func34, Tryd.ntmps34
    go_wp2
    go_quiet (fail)
    go_wp2
    go_ret2
    exact ⟨rfl, below_drewN (Below.refl _ _) _⟩

set_option maxHeartbeats 800000 in
theorem pack_good (s : ByteArray) (block every : Nat) (a : Addr) (w : World) (ha : w.cell? ⟨0, 0, none⟩ = some (.iface 170 (.pointer (some a)))) (hs : s.size ≤ 20000) (hb1 : 1 ≤ block) (hb2 : block ≤ 1024) (he1 : 1 ≤ every) (he2 : every ≤ 100) :
    Calls Tryd.prog 34 #[.string s, .int .i64 block, .int .i64 every] w fun e w' => Below w.heap.size w w' ∧
      ((Sk.fileOf s.data.toList block every).length ≤ 65536 → e = .returned (.tuple #[.string ⟨(Sk.fileOf s.data.toList block every).toArray⟩, .nilIface])) ∧
      (¬ (Sk.fileOf s.data.toList block every).length ≤ 65536 → e = .returned (.tuple #[.string ⟨#[]⟩, errVal a])) := by
  have hlt : 0 < w.heap.size := by
    rcases Nat.lt_or_ge 0 w.heap.size with h | h
    · exact h
    · simp [World.cell?, Array.getElem?_eq_none h] at ha
  obtain ⟨F, hF⟩ : ∃ F, F = Sk.fileOf s.data.toList block every := ⟨_, rfl⟩
  rw [← hF]
  have HF : Hid (Sk.fileOf s.data.toList block every = F) := hF.symm
  clear hF
  have hsz : (⟨F.toArray⟩ : ByteArray).size = F.length := by simp [ByteArray.size]
  by_cases h65 : F.length ≤ 65536
  · go_enter Tryd.func34, Tryd.ntmps34
    go_wp2_with (go_at_call 56; refine (packBlocks_any s block every w hs hb1 hb2 he1 he2).mono ?_; rw [HF.out]; rintro e w1 ⟨rfl, hb⟩; have HB : Hid (Below w.heap.size w w1) := hb; have hc := (hb.cell (p := ⟨0, 0, none⟩) hlt).trans ha; clear hb)
    go_ret2
    exact ⟨HB.out, fun _ => rfl, fun h => absurd h65 h⟩
  · go_enter Tryd.func34, Tryd.ntmps34
    go_wp2_with (go_at_call 56; refine (packBlocks_any s block every w hs hb1 hb2 he1 he2).mono ?_; rw [HF.out]; rintro e w1 ⟨rfl, hb⟩; have HB : Hid (Below w.heap.size w w1) := hb; have hc := (hb.cell (p := ⟨0, 0, none⟩) hlt).trans ha; clear hb)
    go_quiet (fail)
    go_wp2
    go_ret2
    exact ⟨below_drewN HB.out _, fun h => absurd h h65, fun _ => rfl⟩

/-- skipper.Pack, whatever it is called with. -/
theorem pack_any (s : ByteArray) (B E : Int) (a : Addr) (w : World) (ha : w.cell? ⟨0, 0, none⟩ = some (.iface 170 (.pointer (some a)))) :
    Calls Tryd.prog 34 #[.string s, .int .i64 B, .int .i64 E] w fun e w' => Below w.heap.size w w' ∧
      e = .returned (match packOut s.data.toList B E with | some f => .tuple #[.string ⟨f.toArray⟩, .nilIface] | none => .tuple #[.string ⟨#[]⟩, errVal a]) := by
  have hlen : s.data.toList.length = s.size := Array.length_toList
  by_cases h : s.size ≤ 20000 ∧ 1 ≤ B ∧ B ≤ 1024 ∧ 1 ≤ E ∧ E ≤ 100
  · obtain ⟨h1, h2, h3, h4, h5⟩ := h
    have g := pack_good s B.toNat E.toNat a w ha h1 (by omega) (by omega) (by omega) (by omega)
    rw [show ((B.toNat : Nat) : Int) = B by omega, show ((E.toNat : Nat) : Int) = E by omega] at g
    refine g.mono fun e w' ⟨hb, g1, g2⟩ => ⟨hb, ?_⟩
    unfold packOut
    rw [if_pos (by rw [hlen]; exact ⟨h1, h2, h3, h4, h5⟩)]
    by_cases hf : (Sk.fileOf s.data.toList B.toNat E.toNat).length ≤ 65536
    · rw [if_pos hf]; exact g1 hf
    · rw [if_neg hf]; exact g2 hf
  · refine (pack_bad s B E a w ha h).mono fun e w' ⟨he, hb⟩ => ⟨hb, ?_⟩
    unfold packOut
    rw [if_neg (by rw [hlen]; exact h)]
    exact he
end Go.Proofs.YtafkpmjifgohcaaDoor
