/- Values that a call owns, one behind the other; more values behind them. No condition. -/
import Derived.Test.YtnpemegklndegaaDoorCodWrites
namespace Go.Proofs.YtnpemegklndegaaDoor
open Go.RowKit
def OwnV (w : World) (B : Nat) (v : Value) (xs : List V) : Prop := w.ownsRow B 43 3 v xs.length (flat xs)
theorem OwnV.nil (w : World) (B : Nat) : OwnV w B (.slice none 0 0) [] := World.ownsRow_nil w B 43 3
theorem OwnV.row {w : World} {B : Nat} {v : Value} {xs : List V} (h : OwnV w B v xs) : ∃ A c, v = .slice A xs.length c ∧ xs.length ≤ c ∧ c ≤ maxLen ∧ RowAt w w.heap.size A xs := by
  rcases h.2 with ⟨hv, h0⟩ | ⟨g, cap, cur, hv, _, hg, hn, hm, _⟩
  · exact ⟨none, 0, by rw [hv, h0], by omega, by decide, fun h => by omega⟩
  · exact ⟨_, cap, hv, hn, hm, RowAt.of_flat (h.cells (g := g) (by rw [hv]; rfl)) (Array.getElem?_eq_some_iff.1 hg).1⟩
theorem OwnV.shape {w : World} {B : Nat} {v : Value} {xs : List V} (h : OwnV w B v xs) : ∃ A c, v = .slice A xs.length c ∧ xs.length ≤ c := by
  obtain ⟨A, c, hv, hc, -⟩ := h.row
  exact ⟨A, c, hv, hc⟩
theorem OwnV.later {w w' : World} {B : Nat} {v : Value} {xs : List V} (h : OwnV w B v xs) (hb : Below w.heap.size w w') : OwnV w' B v xs :=
  h.kept (row := none) ⟨hb.os, hb.tape, hb.output, hb.size, fun k hk _ => hb.block k hk⟩ (by cases v.ownBlock <;> simp)
theorem OwnV.block {w : World} {B : Nat} {v : Value} {xs : List V} {k : Nat} (h : OwnV w B v xs) (hk : v.ownBlock = some k) : B ≤ k ∧ k < w.heap.size := h.lt k hk
theorem flat_append (xs ys : List V) : flat (xs ++ ys) = flat xs ++ flat ys := by unfold flat; rw [List.flatMap_append]
/-- More values behind those that the call owns. -/
theorem ownV_app {w : World} {B : Nat} {v : Value} {xs : List V} (hown : OwnV w B v xs) (ys : List V) (A : Option Addr) (c : Nat) (hr : RowAt w w.heap.size A ys) (hm : xs.length + ys.length ≤ 10000000) (hB : B ≤ w.heap.size) :
    ∃ v' w', (Builtin.append_ #[23, 23] 23 #[v, .slice A ys.length c]).run Tryd.prog w = .ok v' w' ∧ OwnV w' B v' (xs ++ ys) ∧ w.grownBy w' v.ownBlock ∧ (v'.ownBlock = v.ownBlock ∨ v'.ownBlock = some w.heap.size) := by
  obtain ⟨i0, hi, hz0, hz1, hz2⟩ := info_parts info29
  rcases Nat.eq_zero_or_pos ys.length with h0 | h0
  · have hx := List.eq_nil_of_length_eq_zero h0
    subst hx
    obtain ⟨A', c', rfl, hn⟩ := hown.shape
    refine ⟨.slice A' xs.length c', w, run_append_nothing (P := Tryd.prog) w 23 23 23 43 i0 Tryd.underlying23 hi A' xs.length c' hn _ ?_, by simpa using hown, ?_, Or.inl rfl⟩
    · cases A with
      | none => exact Src.ofNil w Tryd.underlying23 c
      | some a => exact Src.ofSlice w Tryd.underlying23 a 0 c [] (by simp) (by intro j u h; simp at h) (by simp)
    · exact ⟨rfl, rfl, rfl, Nat.le_refl _, fun _ _ _ => rfl⟩
  · obtain ⟨b, off, rfl, -, -⟩ := hr h0
    obtain ⟨v', w', h1, h2, h3, -, h5⟩ := run_append_own_at (P := Tryd.prog) w B 23 23 43 i0 _ 3 32 Tryd.underlying23 hi hz0 hz1 hz2 rfl (by decide) v xs.length (flat xs) hown ⟨b, off, none⟩ ys.length c (flat ys) (by rw [flat_len]) hr.flat (flat_one ys) (by unfold maxLen; omega) (by omega) hB
    refine ⟨v', w', h1, ?_, h3, h5⟩
    unfold OwnV
    rw [List.length_append, flat_append]
    exact h2
theorem ownV_below {w0 w w' : World} {B : Nat} {v : Value} {xs : List V} (hb : Below B w0 w) (hown : OwnV w B v xs) (hg : w.grownBy w' v.ownBlock) (hB : B ≤ w.heap.size) : Below B w0 w' :=
  hb.grown hg hB (fun k hk => (hown.lt k hk).1)
end Go.Proofs.YtnpemegklndegaaDoor
