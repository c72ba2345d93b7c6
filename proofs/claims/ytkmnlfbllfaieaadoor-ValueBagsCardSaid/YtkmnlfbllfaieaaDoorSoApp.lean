/- A list of rows appended to one of the call's own, whatever lists; lists of rows cut. No condition. -/
import Derived.Test.YtkmnlfbllfaieaaDoorSoMrg
import Derived.Deep.Upon
import Derived.Lib.SlFresh
import Derived.Deep.AppendLies
namespace Go.Proofs.YtkmnlfbllfaieaaDoor
open Go.RowKit
theorem info28 : (Tryd.prog.info? 28).map (fun i => (i.zero, i.size, i.bytes)) = some (some (.slice none 0 0), 1, 24) := by kernel_rfl
def vals (rs : List R) : List Value := rs.map R.val
theorem vals_len (rs : List R) : (vals rs).length = rs.length := by simp [vals]
theorem vals_one (rs : List R) : ∀ u ∈ vals rs, u.oneCell' = true := by
  intro u hu
  obtain ⟨r, _, rfl⟩ := List.mem_map.1 hu
  rfl
theorem RowsAt.cells {w : World} {B b off : Nat} {rs : List R} (h : RowsAt w B (some ⟨b, off, none⟩) rs) : ∀ j u, (vals rs)[j]? = some u → w.cell? ((⟨b, off, none⟩ : Addr).add j) = some u := by
  intro j u hu
  have hj : j < rs.length := by
    have := (List.getElem?_eq_some_iff.1 hu).1
    rwa [vals_len] at this
  obtain ⟨b', off', hA, -, hc⟩ := h.1 (by omega)
  simp at hA
  obtain ⟨rfl, rfl⟩ := hA
  have := hc j hj
  rw [WideShapes.add_plain]
  simp [vals, hj] at hu
  rw [← hu]
  exact this
/-- What a row of rows that the call owns looks like. -/
theorem own_shape {w : World} {B n : Nat} {v : Value} {xs : List Value} (h : w.ownsRow B 28 1 v n xs) : ∃ A c, v = .slice A n c ∧ n ≤ c := by
  rcases h.2 with ⟨hv, h0⟩ | ⟨g, cap, cur, hv, _, hg, hn, _⟩
  · exact ⟨none, 0, by rw [hv, h0], by omega⟩
  · exact ⟨_, cap, hv, by assumption⟩
/-- The rows of a row of rows that the call owns. -/
theorem own_rows {w : World} {B : Nat} {v : Value} {rs : List R} (h : w.ownsRow B 28 1 v rs.length (vals rs)) (hr : ∀ r ∈ rs, RowAt w w.heap.size r.A r.xs) : ∃ A c, v = .slice A rs.length c ∧ rs.length ≤ c ∧ RowsAt w w.heap.size A rs := by
  rcases h.2 with ⟨hv, h0⟩ | ⟨g, cap, cur, hv, _, hg, hn, _⟩
  · exact ⟨none, 0, by rw [hv, h0], by omega, fun h => by omega, hr⟩
  · refine ⟨_, cap, hv, hn, fun _ => ⟨g, 0, rfl, (Array.getElem?_eq_some_iff.1 hg).1, fun j hj => ?_⟩, hr⟩
    have := h.cells (g := g) (by rw [hv]; rfl) j rs[j].val (by simp [vals, hj])
    rwa [WideShapes.add_plain] at this
/-- A list of rows is appended. -/
theorem run_append_rows {w : World} {B n : Nat} {v : Value} {xs : List Value} (hown : w.ownsRow B 28 1 v n xs) (rs : List R) (A : Option Addr) (c : Nat) (hr : RowsAt w w.heap.size A rs) (hm : n + rs.length ≤ 1000000) (hB : B ≤ w.heap.size) :
    ∃ v' w', (Builtin.append_ #[22, 22] 22 #[v, .slice A rs.length c]).run Tryd.prog w = .ok v' w' ∧ w'.ownsRow B 28 1 v' (n + rs.length) (xs ++ vals rs) ∧ w.grownBy w' v.ownBlock := by
  obtain ⟨i0, hi, hz0, hz1, hz2⟩ := info_parts info28
  rcases Nat.eq_zero_or_pos rs.length with h0 | h0
  · have hx := List.eq_nil_of_length_eq_zero h0
    subst hx
    obtain ⟨A', c', rfl, hn⟩ := own_shape hown
    refine ⟨.slice A' n c', w, run_append_nothing (P := Tryd.prog) w 22 22 22 28 i0 Tryd.underlying22 hi A' n c' hn _ ?_, by simpa [vals] using hown, ?_⟩
    · cases A with
      | none => exact Src.ofNil w Tryd.underlying22 c
      | some a => exact Src.ofSlice w Tryd.underlying22 a 0 c [] (by simp) (by intro j u h; simp at h) (by simp)
    · exact ⟨rfl, rfl, rfl, Nat.le_refl _, fun _ _ _ => rfl⟩
  · obtain ⟨b, off, rfl, -, -⟩ := hr.1 h0
    obtain ⟨v', w', h1, h2, h3, -⟩ := run_append_own (P := Tryd.prog) w B 22 22 28 i0 (.slice none 0 0) 1 24 Tryd.underlying22 hi hz0 hz1 hz2 rfl (by decide) v n xs hown ⟨b, off, none⟩ rs.length c (vals rs) (by rw [vals_len]; omega) hr.cells (vals_one rs) (by unfold maxLen; omega) (by omega) hB
    exact ⟨v', w', h1, h2, h3⟩
theorem grown_own {w w' : World} {B n : Nat} {v : Value} {xs : List Value} (hown : w.ownsRow B 28 1 v n xs) (hg : w.grownBy w' v.ownBlock) (hB : B ≤ w.heap.size) : Below B w w' :=
  (Below.refl B w).grown hg hB (fun k hk => (hown.lt k hk).1)
/-- .. onto nil: the rows, copied. -/
theorem run_append_copy (w : World) (rs : List R) (A : Option Addr) (c : Nat) (hr : RowsAt w w.heap.size A rs) (hm : rs.length ≤ 1000000) :
    ∃ v' w', (Builtin.append_ #[22, 22] 22 #[.slice none 0 0, .slice A rs.length c]).run Tryd.prog w = .ok v' w' ∧ w'.ownsRow w.heap.size 28 1 v' rs.length (vals rs) ∧ Below w.heap.size w w' := by
  have h0 := World.ownsRow_nil w w.heap.size 28 1
  obtain ⟨v', w', h1, h2, h3⟩ := run_append_rows h0 rs A c hr (by omega) (Nat.le_refl _)
  rw [Nat.zero_add, List.nil_append] at h2
  exact ⟨v', w', h1, h2, grown_own h0 h3 (Nat.le_refl _)⟩
theorem RowsAt.after {w w' : World} {A : Option Addr} {rs : List R} (h : RowsAt w w.heap.size A rs) (hb : Below w.heap.size w w') : RowsAt w' w'.heap.size A rs := by
  have h2 := h.below hb
  refine ⟨fun h0 => ?_, fun r hr => (h2.2 r hr).mono hb.size⟩
  obtain ⟨b, off, hA, hlt, hc⟩ := h2.1 h0
  exact ⟨b, off, hA, Nat.lt_of_lt_of_le hlt hb.size, hc⟩
theorem own_later {w w' : World} {base : Nat} {e : TypeId} {size : Nat} {v : Value} {n : Nat} {xs : List Value} (h : w.ownsRow base e size v n xs) (hb : Below w.heap.size w w') : w'.ownsRow base e size v n xs :=
  h.kept (row := none) ⟨hb.os, hb.tape, hb.output, hb.size, fun k hk _ => hb.block k hk⟩ (by cases v.ownBlock <;> simp)
/-- One row more. -/
theorem rows_step {w w1 w2 : World} {B n : Nat} {v v' : Value} {out : List R} {r : R} {o : Obj} (hB : Below B w w1) (hBw : B ≤ w1.heap.size) (hown : w1.ownsRow B 28 1 v n (vals out)) (hown' : w2.ownsRow B 28 1 v' (n + 1) (vals out ++ [r.val])) (hgrow : (w1.alloc o).grownBy w2 v.ownBlock) :
    w2.ownsRow B 28 1 v' (n + 1) (vals (out ++ [r])) ∧ Below B w w2 :=
  ⟨by unfold vals at *; rw [List.map_append]; exact hown', (hB.alloc hBw _).grown hgrow (by simp; omega) (fun k hk => (hown.lt k hk).1)⟩
/-- The first rows of a list. -/
theorem RowsAt.take {w : World} {B : Nat} {A : Option Addr} {rs : List R} (h : RowsAt w B A rs) (k : Nat) : RowsAt w B A (rs.take k) := by
  refine ⟨fun h0 => ?_, fun r hr => h.2 r (List.mem_of_mem_take hr)⟩
  obtain ⟨b, off, hA, hlt, hc⟩ := h.1 (by rw [List.length_take] at h0; omega)
  refine ⟨b, off, hA, hlt, fun j hj => ?_⟩
  have := hc j (by rw [List.length_take] at hj; omega)
  simpa using this
/-- .. and the others. -/
theorem RowsAt.drop {w : World} {B b off : Nat} {rs : List R} (h : RowsAt w B (some ⟨b, off, none⟩) rs) (k : Nat) : RowsAt w B (some ⟨b, off + k, none⟩) (rs.drop k) := by
  refine ⟨fun h0 => ?_, fun r hr => h.2 r (List.mem_of_mem_drop hr)⟩
  obtain ⟨b', off', hA, hlt, hc⟩ := h.1 (by rw [List.length_drop] at h0; omega)
  simp at hA
  obtain ⟨rfl, rfl⟩ := hA
  refine ⟨b, off + k, rfl, hlt, fun j hj => ?_⟩
  have := hc (k + j) (by rw [List.length_drop] at hj; omega)
  rw [Nat.add_assoc]
  simpa using this
end Go.Proofs.YtkmnlfbllfaieaaDoor
