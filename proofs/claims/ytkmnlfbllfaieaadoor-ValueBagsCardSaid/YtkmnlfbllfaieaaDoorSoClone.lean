/- Contract of slices.Clone at a row: its values in memory of the call's own. Condition: the row is no longer than 2 to the 40. -/
import Derived.Test.YtkmnlfbllfaieaaDoorFlat
import Derived.Test.YtkmnlfbllfaieaaDoorSoKit
import Derived.Deep.Upon
import Derived.Lib.SlFresh
import Derived.Lib.SliceRun
namespace Go.Proofs.YtkmnlfbllfaieaaDoor
open Go.RowKit
/-- A row in memory behind a block of the caller's own. -/
def RowNew (w : World) (g : Nat) (A : Option Addr) (xs : List V) : Prop := 0 < xs.length → ∃ b off, A = some ⟨b, off, none⟩ ∧ g < b ∧ b < w.heap.size ∧ ∀ j (h : j < xs.length), CellsAt w b (off + j * 3) xs[j]
theorem RowNew.row {w : World} {g : Nat} {A : Option Addr} {xs : List V} (h : RowNew w g A xs) : RowAt w w.heap.size A xs := fun h0 => by
  obtain ⟨b, off, hA, _, hlt, hc⟩ := h h0
  exact ⟨b, off, hA, hlt, hc⟩
theorem RowNew.later {w w' : World} {g : Nat} {A : Option Addr} {xs : List V} (h : RowNew w g A xs) (hb : Below w.heap.size w w') : RowNew w' g A xs := fun h0 => by
  obtain ⟨b, off, hA, hg, hlt, hc⟩ := h h0
  refine ⟨b, off, hA, hg, Nat.lt_of_lt_of_le hlt hb.size, fun j hj => ?_⟩
  obtain ⟨h1, h2, h3⟩ := hc j hj
  exact ⟨(hb.cell (p := ⟨b, _, none⟩) hlt).trans h1, (hb.cell (p := ⟨b, _, none⟩) hlt).trans h2, (hb.cell (p := ⟨b, _, none⟩) hlt).trans h3⟩
theorem RowNew.set {w : World} {g k : Nat} {A : Option Addr} {xs : List V} {v : Value} (h : RowNew w g A xs) : RowNew (w.setCell ⟨g, k, none⟩ v) g A xs := fun h0 => by
  obtain ⟨b, off, hA, hg, hlt, hc⟩ := h h0
  refine ⟨b, off, hA, hg, by simpa using hlt, fun j hj => ?_⟩
  obtain ⟨h1, h2, h3⟩ := hc j hj
  exact ⟨(World.cell?_setCell_other _ _ _ _ (by simp <;> omega)).trans h1, (World.cell?_setCell_other _ _ _ _ (by simp <;> omega)).trans h2, (World.cell?_setCell_other _ _ _ _ (by simp <;> omega)).trans h3⟩
def Cloned (g : Nat) (xs : List V) (w : World) (e : Ending) (w' : World) : Prop := ∃ A c, e = .returned (.slice A xs.length c) ∧ RowNew w' g A xs ∧ Below w.heap.size w w'
set_option maxRecDepth 100000 in
set_option maxHeartbeats 2000000 in
theorem clone_any (xs : List V) (A : Option Addr) (c g : Nat) (w : World) (hr : RowAt w w.heap.size A xs) (hm : xs.length ≤ 1000000) (hg : g < w.heap.size) :
    Calls Tryd.prog 24 #[.slice A xs.length c] w (Cloned g xs w) := by
  cases A with
  | none =>
    have hx : xs.length = 0 := by
      rcases Nat.eq_zero_or_pos xs.length with h | h
      · exact h
      · obtain ⟨b, off, h2, _⟩ := hr h
        cases h2
    have hx := List.eq_nil_of_length_eq_zero hx
    subst hx
    have E1 : ∀ w, (binOp .eql 28 (.slice none 0 c) (.slice none 0 0)).run Tryd.prog w = .ok (.bool true) w := fun w => Lib.run_eql_slice_nil w 28 35 none 0 c 0 0 Tryd.underlying28
    go_enter Tryd.func24, Tryd.ntmps24
    go_wp2_with fail
    go_ret
    exact ⟨none, 0, rfl, fun h => by simp at h, Below.refl _ _⟩
  | some a =>
    obtain ⟨i0, hi, hz0, hz1, hz2⟩ := info_parts info29
    have E1 : ∀ w, (binOp .eql 28 (.slice (some a) xs.length c) (.slice none 0 0)).run Tryd.prog w = .ok (.bool false) w := fun w => Lib.run_eql_slice_nil w 28 35 (some a) xs.length c 0 0 Tryd.underlying28
    have HR : Hid (∃ v w', (Builtin.append_ #[28, 28] 28 #[.slice (some ⟨w.heap.size, 0, none⟩) 0 0, .slice (some a) xs.length c]).run Tryd.prog (w.alloc (.cells #[] 35)) = .ok v w' ∧ Cloned g xs w (.returned v) w') := by
      rcases Nat.eq_zero_or_pos xs.length with h0 | h0
      · have hx := List.eq_nil_of_length_eq_zero h0
        subst hx
        refine ⟨_, _, run_append_nothing (P := Tryd.prog) (w.alloc (.cells #[] 35)) 28 28 28 35 i0 Tryd.underlying28 hi _ 0 0 (Nat.le_refl _) _ (Src.ofSlice _ Tryd.underlying28 a 0 c [] (by simp) (by intro j u h; simp at h) (by simp)), ?_⟩
        exact ⟨_, _, rfl, fun h => by simp at h, (Below.refl _ w).alloc (Nat.le_refl _) _⟩
      · obtain ⟨b, off, hA, hlt, -⟩ := hr h0
        injection hA with hA
        subst hA
        have hrun := run_append_grow (P := Tryd.prog) (w.alloc (.cells #[] 35)) 28 28 35 i0 _ Tryd.underlying28 hi hz0 ⟨w.heap.size, 0, none⟩ 0 0 [] (by simp) (by intro j v hj; simp at hj) ⟨b, off, none⟩ xs.length c (flat xs) (by rw [flat_len, hz1]) ((hr.below ((Below.refl _ w).alloc (Nat.le_refl _) _)).flat) (by omega) (by omega) (growslice_fits (by omega) (by rw [hz2]; omega))
        simp only [Nat.zero_add] at hrun
        refine ⟨_, _, hrun, ?_⟩
        generalize grownCap _ _ _ _ = cap
        refine ⟨_, _, rfl, fun _ => ?_, (((Below.refl _ w).alloc (Nat.le_refl _) _).drew).alloc (by simp) _⟩
        generalize hW : (w.alloc (.cells #[] 35)).drew.alloc _ = W
        have hz : (w.alloc (.cells #[] 35)).heap.size = (w.alloc (.cells #[] 35)).drew.heap.size := rfl
        have hn := heap_alloc_new (w.alloc (.cells #[] 35)).drew (.cells (([] : List Value).toArray ++ (flat xs).toArray ++ Builtin.zeroCells (Value.agg #[.int .i64 0, .int .i64 0, .string ⟨#[]⟩]).cells (cap - xs.length)) 35)
        rw [hW, ← hz] at hn
        have hgl : g < (w.alloc (.cells #[] 35)).heap.size := by simp; omega
        generalize (w.alloc (.cells #[] 35)).heap.size = B at *
        have hB : B < W.heap.size := (Array.getElem?_eq_some_iff.1 hn).1
        have h := RowAt.of_flat (g := B) (ys := xs) (fun j u hu => World.news_of_block hn j u (by
          have hj := (List.getElem?_eq_some_iff.1 hu).1
          simp only [Array.toList_append, List.nil_append]
          rw [List.getElem?_append_left hj]
          exact hu)) hB
        obtain ⟨b', off', hA, hlt', hc⟩ := h h0
        injection hA with hA
        injection hA with e1 e2 e3
        subst e1 e2
        exact ⟨_, _, rfl, hgl, hlt', hc⟩
    obtain ⟨v, w2, hrun, hC⟩ := HR.out
    clear HR
    have HC := Lib.hid hC
    clear hC hr
    generalize xs.length = n at *
    go_enter Tryd.func24, Tryd.ntmps24
    go_wp2_with (at_builtin; refine Lib.wpList_append_run_sl _ rfl _ _ 28 rfl _ _ rfl rfl hrun ?_)
    go_wp2_with fail
    go_ret
    exact HC.out
end Go.Proofs.YtkmnlfbllfaieaaDoor
