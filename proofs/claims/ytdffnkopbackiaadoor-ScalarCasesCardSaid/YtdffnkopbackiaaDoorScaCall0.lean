/- A function of scalar's list in a block of its own. No condition. -/
import Derived.Test.YtdffnkopbackiaaDoorScaArgs
import Derived.Laws.EntriesVeiled
namespace Go.Proofs.YtdffnkopbackiaaDoor
open Go.RowKit
def FnBox (w : World) (b : Nat) (x : Fn) : Prop := w.heap[b]? = some (.cells #[.string x.nm, .int .i64 x.lo, .int .i64 x.hi, .int .u64 x.k0, .int .u64 x.k1, .int .u64 x.k2, .func (.func x.f) #[] #[]] 58 (0, 0))
theorem FnBox.made (w : World) (x : Fn) : FnBox (w.alloc (.cells #[.string x.nm, .int .i64 x.lo, .int .i64 x.hi, .int .u64 x.k0, .int .u64 x.k1, .int .u64 x.k2, .func (.func x.f) #[] #[]] 58)) w.heap.size x := heap_alloc_new w _
theorem FnBox.later {w w' : World} {b : Nat} {x : Fn} (h : FnBox w b x) (hb : Below w.heap.size w w') : FnBox w' b x := (hb.block b (Array.getElem?_eq_some_iff.1 h).1).trans h
theorem FnBox.cells {w : World} {b : Nat} {x : Fn} (h : FnBox w b x) : w.cell? ⟨b, 0, none⟩ = some (.string x.nm) ∧ w.cell? ⟨b, 1, none⟩ = some (.int .i64 x.lo) ∧ w.cell? ⟨b, 2, none⟩ = some (.int .i64 x.hi) ∧ w.cell? ⟨b, 3, none⟩ = some (.int .u64 x.k0) ∧ w.cell? ⟨b, 4, none⟩ = some (.int .u64 x.k1) ∧ w.cell? ⟨b, 5, none⟩ = some (.int .u64 x.k2) ∧ w.cell? ⟨b, 6, none⟩ = some (.func (.func x.f) #[] #[]) := by
  unfold FnBox at h
  refine ⟨?_, ?_, ?_, ?_, ?_, ?_, ?_⟩ <;> (rw [Lib.cell_of_heap h]; rfl)
end Go.Proofs.YtdffnkopbackiaaDoor
