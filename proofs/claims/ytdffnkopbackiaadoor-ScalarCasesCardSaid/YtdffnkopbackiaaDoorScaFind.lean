/- Contract of scalar's find: the function of a name, whatever the name is. No condition. -/
import Derived.Test.YtdffnkopbackiaaDoorScaFns
namespace Go.Proofs.YtdffnkopbackiaaDoor
open Go.RowKit
def look (nm : ByteArray) : Option Fn := fns.find? fun f => f.nm.toList == nm.toList
def fnAgg (x : Fn) : Value := .agg #[.string x.nm, .int .i64 x.lo, .int .i64 x.hi, .int .u64 x.k0, .int .u64 x.k1, .int .u64 x.k2, .func (.func x.f) #[] #[]]
def fnVal : Option Fn → Value
  | some x => fnAgg x
  | none => .agg #[.string ⟨#[]⟩, .int .i64 0, .int .i64 0, .int .u64 0, .int .u64 0, .int .u64 0, .nilFunc]
theorem look_at {nm : ByteArray} {k : Nat} (hk : k < fns.length) (h0 : ∀ j (h : j < fns.length), j < k → (fns[j].nm.toList == nm.toList) = false) (h1 : (fns[k].nm.toList == nm.toList) = true) : look nm = some fns[k] := by
  unfold look
  rw [List.find?_eq_some_iff_getElem]
  refine ⟨h1, k, hk, rfl, fun j hj => ?_⟩
  rw [h0 j (by omega) hj]
  rfl
theorem look_none {nm : ByteArray} (h0 : ∀ j (h : j < fns.length), (fns[j].nm.toList == nm.toList) = false) : look nm = none := by
  unfold look
  rw [List.find?_eq_none]
  intro x hx
  obtain ⟨j, hj, rfl⟩ := List.getElem_of_mem hx
  rw [h0 j hj]
  simp
theorem fns_len : fns.length = 11 := rfl
def FBox (w : World) (b : Nat) : Prop := w.heap[b]? = some (.cells #[.string ⟨#[]⟩, .int .i64 0, .int .i64 0, .int .u64 0, .int .u64 0, .int .u64 0, .nilFunc] 58 (0, 0))
theorem FBox.cells {w : World} {b : Nat} (h : FBox w b) : w.cell? ⟨b, 0, none⟩ = some (.string ⟨#[]⟩) ∧ w.cell? ⟨b, 1, none⟩ = some (.int .i64 0) ∧ w.cell? ⟨b, 2, none⟩ = some (.int .i64 0) ∧ w.cell? ⟨b, 3, none⟩ = some (.int .u64 0) ∧ w.cell? ⟨b, 4, none⟩ = some (.int .u64 0) ∧ w.cell? ⟨b, 5, none⟩ = some (.int .u64 0) ∧ w.cell? ⟨b, 6, none⟩ = some .nilFunc := by
  unfold FBox at h
  refine ⟨?_, ?_, ?_, ?_, ?_, ?_, ?_⟩ <;> (rw [Lib.cell_of_heap h]; rfl)
theorem FBox.free {w : World} {b : Nat} (h : FBox w b) : ∀ o, w.frozen? ⟨b, o, none⟩ = false := by
  intro o
  unfold FBox at h
  unfold World.frozen?
  simp [h]
end Go.Proofs.YtdffnkopbackiaaDoor
