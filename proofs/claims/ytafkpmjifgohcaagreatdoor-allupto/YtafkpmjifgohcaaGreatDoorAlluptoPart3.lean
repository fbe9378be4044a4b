/- The law's own world in memory: its struct, the rows of lists that came out and of their marks, and the lists themselves, all apart; what appends and stores make of it.
Rows in memory: small facts. -/
import Derived.Test.YtafkpmjifgohcaaGreatDoorRow
namespace Go.Proofs.YtafkpmjifgohcaaGreatDoor
open Go.RowKit

/-- n times the same cells. -/
def rep (n : Nat) (xs : List Value) : List Value := (List.replicate n xs).flatten
theorem rep_succ (n : Nat) (xs : List Value) : rep (n + 1) xs = rep n xs ++ xs := by
  unfold rep
  rw [List.replicate_succ', List.flatten_append]
  simp
theorem rep_length (n : Nat) (xs : List Value) : (rep n xs).length = n * xs.length := by
  induction n with
  | zero => simp [rep]
  | succ n ih => rw [rep_succ, List.length_append, ih, Nat.succ_mul]

/-- A mark on a list of numbers, on a list of blocks. -/
def mk1 (m : Int) : List Value := [.int .i64 m]
def mk4 (m : Int) : List Value := [.int .i64 m, .int .i64 m, .int .i64 0, .bool false]

/-- Lists that came out (L), their marks (M): the two rows va, vm hold them, and each list holds its mark. -/
structure Pr (w : World) (sz : Nat) (mk : Int → List Value) (va vm : Value) (L : List Value) (M : List Int) : Prop where
  ra : Rw w 1 va L.length L
  rm : Rw w 1 vm L.length (M.map (Value.int .i64))
  ent : ∀ i (h : i < L.length) (h' : i < M.length), ∃ n, Rw w sz L[i] n (rep n (mk M[i]))

theorem Pr.len {w : World} {sz : Nat} {mk : Int → List Value} {va vm : Value} {L : List Value} {M : List Int} (h : Pr w sz mk va vm L M) : M.length = L.length := by
  have := h.rm.1
  simpa using this

/-- All is kept where none of its blocks has changed. -/
theorem Pr.kept {w w' : World} {sz : Nat} {mk : Int → List Value} {va vm : Value} {L : List Value} {M : List Int} (h : Pr w sz mk va vm L M) (hs : w.heap.size ≤ w'.heap.size) (X : Nat → Prop) (hX : ∀ k, k < w.heap.size → ¬ X k → w'.heap[k]? = w.heap[k]?)
    (h1 : ∀ k, va.ownBlock = some k → ¬ X k) (h2 : ∀ k, vm.ownBlock = some k → ¬ X k) (h3 : ∀ v ∈ L, ∀ k, v.ownBlock = some k → ¬ X k) : Pr w' sz mk va vm L M :=
  ⟨h.ra.kept hs fun k hk => hX k (h.ra.lt k hk) (h1 k hk), h.rm.kept hs fun k hk => hX k (h.rm.lt k hk) (h2 k hk), fun i hi hi' => by
    obtain ⟨n, hn⟩ := h.ent i hi hi'
    exact ⟨n, hn.kept hs fun k hk => hX k (hn.lt k hk) (h3 _ (List.getElem_mem hi) k hk)⟩⟩

/-- One list more, with its mark: the rows have grown. -/
theorem Pr.more {w : World} {sz : Nat} {mk : Int → List Value} {va vm : Value} {L : List Value} {M : List Int} (l : Value) (m : Int) (hra : Rw w 1 va (L.length + 1) (L ++ [l])) (hrm : Rw w 1 vm (L.length + 1) (M.map (Value.int .i64) ++ [.int .i64 m]))
    (hlen : M.length = L.length) (hent : ∀ i (h : i < L.length) (h' : i < M.length), ∃ n, Rw w sz L[i] n (rep n (mk M[i]))) (hl : ∃ n, Rw w sz l n (rep n (mk m))) : Pr w sz mk va vm (L ++ [l]) (M ++ [m]) := by
  refine ⟨by rw [List.length_append]; exact hra, by rw [List.length_append, List.map_append]; exact hrm, fun i hi hi' => ?_⟩
  by_cases h : i < L.length
  · rw [List.getElem_append_left h, List.getElem_append_left (by omega)]
    exact hent i h (by omega)
  · have e : i = L.length := by simp at hi; omega
    subst e
    rw [List.getElem_append_right (Nat.le_refl _), List.getElem_append_right (by omega)]
    simpa [hlen] using hl
end Go.Proofs.YtafkpmjifgohcaaGreatDoor

namespace Go.Proofs.YtafkpmjifgohcaaGreatDoor
open Go.RowKit

theorem Rw.some_of {w : World} {sz n cap : Nat} {vo : Option Addr} {xs : List Value} (h : Rw w sz (.slice vo n cap) n xs) (hn : 0 < n) : ∃ g, vo = some ⟨g, 0, none⟩ := by
  rcases h.2 with ⟨_, h0⟩ | ⟨g, c, e, _⟩
  · omega
  · cases e; exact ⟨g, rfl⟩

theorem Rw.there {w : World} {sz n g cap : Nat} {xs : List Value} (h : Rw w sz (.slice (some ⟨g, 0, none⟩) n cap) n xs) (j : Nat) (hj : j < n * sz) : ∃ v, w.cell? ⟨g, j, none⟩ = some v ∧ w.frozen? ⟨g, j, none⟩ = false := by
  have hl := h.1
  rcases h.2 with ⟨e, _⟩ | ⟨g', cap', e, h1, _, _, h3, h4⟩
  · cases e
  · cases e
    have := Nat.mul_le_mul_right sz h1
    exact ⟨_, h4 j (by omega), h3 j (by omega)⟩

theorem Tryz.infoI : (Tryz.prog.info? 3).map (fun i => (i.zero, i.size, i.bytes)) = some (some (.int .i64 0), 1, 8) := by kernel_rfl
theorem Tryz.infoBl : (Tryz.prog.info? 61).map (fun i => (i.zero, i.size, i.bytes)) = some (some (.agg #[.int .i64 0, .int .i64 0, .int .i64 0, .bool false]), 4, 32) := by kernel_rfl

end Go.Proofs.YtafkpmjifgohcaaGreatDoor
