/- The document's Open, whatever it is called with. -/
import Derived.Test.YtafkpmjifgohcaaDoorRefOpen
import Derived.Test.YtafkpmjifgohcaaDoorPureOpen2
namespace Go.Proofs.YtafkpmjifgohcaaDoor
open Go.RowKit

set_option maxHeartbeats 400000 in
theorem refOpen_big (s : ByteArray) (w : World) (h : 65536 < s.size) (h2 : s.size ≤ 1000000000000000) :
    Calls Tryd.prog 32 #[.string s] w fun e w' => e = .returned (.tuple #[.pointer none, .int .i64 1]) ∧ w' = w := by
  have hi : (65536 : Int) < (s.size : Int) := by omega
  go_enter Tryd.func32, Tryd.ntmps32
  go_wp2
  go_ret2
  exact ⟨rfl, rfl⟩

set_option maxHeartbeats 400000 in
theorem refOpen_short (s : ByteArray) (w : World) (h : s.size < 3) :
    Calls Tryd.prog 32 #[.string s] w fun e w' => e = .returned (.tuple #[.pointer none, .int .i64 2]) ∧ w' = w := by
  have hi : (s.size : Int) < 3 := by omega
  go_enter Tryd.func32, Tryd.ntmps32
  go_wp2
  go_ret2
  exact ⟨rfl, rfl⟩

set_option maxHeartbeats 400000 in
theorem refOpen_other (s : ByteArray) (w : World) (h : s.size ≤ 65536) (h3 : 3 ≤ s.size) (hm : (s.extract 0 3).toList ≠ [83, 75, 49]) :
    Calls Tryd.prog 32 #[.string s] w fun e w' => e = .returned (.tuple #[.pointer none, .int .i64 2]) ∧ w' = w := by
  have hi : (3 : Int) ≤ (s.size : Int) := by omega
  have hb : ((s.extract 0 3).toList == [83, 75, 49]) = false := by simpa using hm
  have hb2 : ((s.extract 0 3).toList != [83, 75, 49]) = true := by simpa using hm
  go_enter Tryd.func32, Tryd.ntmps32
  go_wp2
  go_ret2
  exact ⟨rfl, rfl⟩

theorem extract3 (s : ByteArray) : (s.extract 0 3).toList = s.data.toList.take 3 := by
  rw [ByteArray.toList_eq]
  simp [ByteArray.data_extract]

/-- What the document's Open answers. -/
theorem refOpen_any (s : ByteArray) (w : World) (hs : s.size ≤ 1000000000000000) :
    Calls Tryd.prog 32 #[.string s] w fun e w' => Below w.heap.size w w' ∧
      ((Sk.openR s.data.toList).1 = 0 → ∃ g v, e = .returned (.tuple #[.pointer (some ⟨g, 0, none⟩), .int .i64 0]) ∧ RFile w' w.heap.size g s v (Sk.openR s.data.toList).2.1 (Sk.openR s.data.toList).2.2) ∧
      ((Sk.openR s.data.toList).1 ≠ 0 → e = .returned (.tuple #[.pointer none, .int .i64 (Sk.openR s.data.toList).1])) := by
  have hlen : s.data.toList.length = s.size := Array.length_toList
  unfold Sk.openR
  by_cases h1 : 65536 < s.size
  · rw [if_pos (by rw [hlen]; exact h1)]
    refine (refOpen_big s w h1 hs).mono fun e w' ⟨he, hw⟩ => ⟨by rw [hw]; exact Below.refl _ _, (fun h => by cases h), fun _ => he⟩
  · rw [if_neg (by rw [hlen]; exact h1)]
    by_cases h2 : s.size < 3
    · rw [if_pos (.inl (by rw [hlen]; exact h2))]
      refine (refOpen_short s w h2).mono fun e w' ⟨he, hw⟩ => ⟨by rw [hw]; exact Below.refl _ _, (fun h => by cases h), fun _ => he⟩
    · by_cases h3 : s.data.toList.take 3 = [83, 75, 49]
      · rw [if_neg (by rw [hlen]; rintro (h | h); exact h2 h; exact h h3), hlen]
        have hm : s.extract 0 3 = ⟨#[83, 75, 49]⟩ := by
          apply ByteArray.ext
          apply Array.ext'
          rw [ByteArray.data_extract]
          simpa using h3
        exact refOpen_loop s w (by omega) (by omega) hm
      · rw [if_pos (.inr h3)]
        refine (refOpen_other s w (by omega) (by omega) (by rw [extract3]; exact h3)).mono fun e w' ⟨he, hw⟩ => ⟨by rw [hw]; exact Below.refl _ _, (fun h => by cases h), fun _ => he⟩
end Go.Proofs.YtafkpmjifgohcaaDoor
