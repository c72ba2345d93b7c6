/- A row laid out flat, cell for cell, as an append takes and leaves it. No condition. -/
import Derived.Test.YtnpemegklndegaaDoorRowDef
import Derived.Deep.AppendLies
namespace Go.Proofs.YtnpemegklndegaaDoor
open Go.RowKit
def c3 (v : V) : List Value := [.int .i64 v.k, .int .i64 v.i, .string v.s]
def flat (xs : List V) : List Value := xs.flatMap c3
theorem flat_len (xs : List V) : (flat xs).length = xs.length * 3 := by
  induction xs with
  | nil => rfl
  | cons a l ih => show (c3 a ++ flat l).length = _; rw [List.length_append, ih]; simp [c3]; omega
theorem flat_one (xs : List V) : ∀ u ∈ flat xs, u.oneCell' = true := by
  intro u hu
  obtain ⟨v, _, hv⟩ := List.mem_flatMap.1 hu
  simp [c3] at hv
  rcases hv with rfl | rfl | rfl <;> rfl
theorem flat_get (xs : List V) (j t : Nat) (hj : j < xs.length) (ht : t < 3) : (flat xs)[j * 3 + t]? = (c3 xs[j])[t]? := by
  induction xs generalizing j with
  | nil => simp at hj
  | cons a l ih =>
    show (c3 a ++ flat l)[j * 3 + t]? = _
    cases j with
    | zero =>
      rw [List.getElem?_append_left (by simp [c3]; omega)]
      simp
    | succ j =>
      rw [List.getElem?_append_right (by simp [c3]; omega)]
      rw [show (j + 1) * 3 + t - (c3 a).length = j * 3 + t by simp [c3]; omega, ih j (by simpa using hj)]
      simp
/-- A row's cells, laid out flat: as an append takes them. -/
theorem RowAt.flat {w : World} {B : Nat} {b off : Nat} {xs : List V} (h : RowAt w B (some ⟨b, off, none⟩) xs) : ∀ j u, (Go.Proofs.YtnpemegklndegaaDoor.flat xs)[j]? = some u → w.cell? ((⟨b, off, none⟩ : Addr).add j) = some u := by
  intro j u hu
  have hl : j < xs.length * 3 := by
    have := (List.getElem?_eq_some_iff.1 hu).1
    rwa [flat_len] at this
  obtain ⟨b', off', hA, hlt, hc⟩ := h (by omega)
  simp at hA
  obtain ⟨rfl, rfl⟩ := hA
  have hq : j / 3 < xs.length := by omega
  obtain ⟨h0, h1, h2⟩ := hc (j / 3) hq
  rw [show j = j / 3 * 3 + j % 3 by omega, flat_get xs (j / 3) (j % 3) hq (by omega)] at hu
  rw [WideShapes.add_plain]
  have h3 : j % 3 = 0 ∨ j % 3 = 1 ∨ j % 3 = 2 := by omega
  rcases h3 with h3 | h3 | h3
  · rw [h3] at hu
    simp [c3] at hu
    rw [← hu, show off + j = off + j / 3 * 3 by omega]; exact h0
  · rw [h3] at hu
    simp [c3] at hu
    rw [← hu, show off + j = off + j / 3 * 3 + 1 by omega]; exact h1
  · rw [h3] at hu
    simp [c3] at hu
    rw [← hu, show off + j = off + j / 3 * 3 + 2 by omega]; exact h2
/-- .. and back: a block that holds a row's cells holds the row. -/
theorem RowAt.of_flat {w : World} {g : Nat} {ys : List V} (h : ∀ j u, (Go.Proofs.YtnpemegklndegaaDoor.flat ys)[j]? = some u → w.cell? ((⟨g, 0, none⟩ : Addr).add j) = some u) (hg : g < w.heap.size) : RowAt w w.heap.size (some ⟨g, 0, none⟩) ys := fun _ => by
  refine ⟨g, 0, rfl, hg, fun j hj => ?_⟩
  have e0 := h (j * 3 + 0) _ (flat_get ys j 0 hj (by omega))
  have e1 := h (j * 3 + 1) _ (flat_get ys j 1 hj (by omega))
  have e2 := h (j * 3 + 2) _ (flat_get ys j 2 hj (by omega))
  rw [WideShapes.add_plain] at e0 e1 e2
  exact ⟨e0, e1, e2⟩
theorem info29 : (Tryd.prog.info? 43).map (fun i => (i.zero, i.size, i.bytes)) = some (some (.agg #[.int .i64 0, .int .i64 0, .string ⟨#[]⟩]), 3, 32) := by kernel_rfl
end Go.Proofs.YtnpemegklndegaaDoor
