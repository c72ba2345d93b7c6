/- What the laws of layer 1's sorting share: how few rows there are, where sorted rows lie. No condition. -/
import Derived.Test.YtkmnlfbllfaieaaDoorSoSorted
import Derived.Test.YtkmnlfbllfaieaaDoorBig1
import Derived.Test.YtkmnlfbllfaieaaDoorLive
namespace Go.Proofs.YtkmnlfbllfaieaaDoor
open Go.RowKit
theorem rowN_len (xs : List V) : xs.length ≤ rowN xs := by
  induction xs with
  | nil => simp
  | cons a l ih => unfold rowN at ih ⊢; simp only [List.map_cons, List.sum_cons, List.length_cons]; omega
theorem rowsN_mem {rs : List R} {r : R} (h : r ∈ rs) : r.xs.length ≤ rowsN rs := by
  induction rs with
  | nil => simp at h
  | cons a l ih =>
    unfold rowsN at ih ⊢
    simp only [List.map_cons, List.sum_cons]
    rcases List.mem_cons.1 h with rfl | h
    · have := rowN_len r.xs; omega
    · have := ih h; omega
theorem few_rows {rs : List R} (h : few rs 20000 = true) : ∀ r ∈ rs, r.xs.length ≤ 1000000 := fun r hr => by
  have h1 := rowsN_mem hr
  unfold few at h
  simp at h
  omega
theorem few_ok {rs : List R} (h : few rs 20000 = true) : RowsOk rs := fun r hr => by have := few_rows h r hr; omega
/-- The rows that Sorted left, in later memory. -/
theorem sorted_rows {outs : List R} {g : Nat} {w : World} (h : w.heap[g]? = some (.cells (vals outs).toArray 28 (0, 0))) (hr : ∀ r ∈ outs, RowNew w g r.A r.xs) : RowsAt w w.heap.size (some ⟨g, 0, none⟩) outs := by
  refine ⟨fun _ => ⟨g, 0, rfl, (Array.getElem?_eq_some_iff.1 h).1, fun j hj => ?_⟩, fun r h' => (hr r h').row⟩
  rw [Lib.cell_of_heap h]
  simp [vals, hj]
theorem outs_len {outs rs : List R} (h : keys outs = srt rs) : outs.length = rs.length := by
  rw [← keys_len outs, h, srt_len]
theorem outs_short {outs rs : List R} (h : keys outs = srt rs) (hs : ∀ r ∈ rs, r.xs.length ≤ 1000000) : ∀ r ∈ outs, r.xs.length ≤ 1000000 := fun r hr => by
  have h1 : r.xs ∈ srt rs := by rw [← h]; exact List.mem_map.2 ⟨r, hr, rfl⟩
  obtain ⟨s, hs1, hs2⟩ := List.mem_map.1 ((srt_perm rs).mem_iff.1 h1)
  rw [← hs2]
  exact hs s hs1
end Go.Proofs.YtkmnlfbllfaieaaDoor
