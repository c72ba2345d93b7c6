/- What a list of rows that came in reads as: its rows one by one, and the form's own reach on their sizes. No condition. -/
import Derived.Test.YtkmnlfbllfaieaaDoorOpen
namespace Go.Proofs.YtkmnlfbllfaieaaDoor
open Go.RowKit Go.ChangeShapes Go.WideShapes Go.Deep
section
variable {H : Type} {enc : TypeId × Value → H} {W : World}
set_option maxRecDepth 100000 in
/-- Rows that came in as a slice, opened, one by one. -/
theorem open_rows {ts : TypeId} (hts : Tryd.prog.underlying ts = some (.slice 28)) {fuel : Nat} {a0 : Option Addr} {len cap : Nat} {x : DataW H × List MemPlace} (hf : DataW.trod enc Tryd.prog W 0 (fun _ => true) true fuel ts [.slice a0 len cap] = some x) (hsz : ∀ n ∈ x.1.weights Tryd.prog ts, n ≤ reachBytes) :
    ∃ rs : List R, rs.length = len ∧ RowsAt W W.heap.size a0 rs ∧ rs.length ≤ 140737488355328 ∧ (∀ r ∈ rs, RowSmall r.xs) ∧ len ≤ cap ∧ cap ≤ 140737488355328 := by
  rcases open_slice hts hf with ⟨hcs, hx⟩ | ⟨a, len', cap', m, n, D, Pl, hcs, hb, hl, hm, hmm, hx, hi⟩
  · simp at hcs
    obtain ⟨rfl, rfl, rfl⟩ := hcs
    exact ⟨[], rfl, ⟨fun h => absurd h (by simp), fun r hr => by simp at hr⟩, by simp, by simp, Nat.le_refl _, by omega⟩
  · simp at hcs
    obtain ⟨rfl, rfl, rfl⟩ := hcs
    subst hx
    simp only [if_true] at hmm
    subst hmm
    have c28 : Tryd.prog.cellsOf 28 = 1 := by kernel_rfl
    have b28 : Tryd.prog.bytesOf 28 = 24 := by kernel_rfl
    have hcap : m ≤ 140737488355328 := by
      have := hsz ((((List.range len).map D).length + ((List.range (m - len)).map fun j => D (len + j)).length) * Tryd.prog.bytesOf 28) (by simp only [DataW.weights, hts, List.mem_cons]; exact Or.inl trivial)
      rw [b28] at this
      simp at this
      have := reachBytes_lt
      omega
    obtain ⟨b, o, spot⟩ := a
    have one : ∀ {l : List Value}, l.length = 1 → ∃ v, l = [v] := fun {l} h => by
      match l, h with
      | [v], _ => exact ⟨v, rfl⟩
    have hspot : 0 < len → spot = none := by
      intro h0
      obtain ⟨cs', hc, _⟩ := hi 0 (by omega)
      rw [c28] at hc
      obtain ⟨_, hcl, hat⟩ := World.cells?_some hc
      obtain ⟨v0, rfl⟩ := one hcl
      have q0 := hat 0 (by omega)
      have := World.cell?_spot (show W.cell? _ = some _ from q0)
      simpa [Addr.add] using this
    have key : ∀ i, i < len → ∃ r : R, W.cell? ⟨b, o + i, none⟩ = some r.val ∧ RowAt W W.heap.size r.A r.xs ∧ RowSmall r.xs := by
      intro i hil
      obtain ⟨cs', hc, ht⟩ := hi i (by omega)
      rw [c28] at hc
      obtain ⟨_, hcl, hat⟩ := World.cells?_some hc
      obtain ⟨v0, rfl⟩ := one hcl
      have hw : ∀ n ∈ (D i).weights Tryd.prog 28, n ≤ reachBytes := fun n hn => hsz n (weights_elem hts (d := D i) (List.mem_map.2 ⟨i, List.mem_range.2 hil, rfl⟩) n hn)
      have hv : ∃ a1 l1 k1, v0 = .slice a1 l1 k1 := by
        rcases open_slice Tryd.underlying28 ht with ⟨h, _⟩ | ⟨a1, l1, k1, _, _, _, _, h, _⟩
        · simp at h
          exact ⟨_, _, _, h⟩
        · simp at h
          exact ⟨_, _, _, h⟩
      obtain ⟨a1, l1, k1, rfl⟩ := hv
      obtain ⟨xs, e, h1, h2, h3, -⟩ := open_vals Tryd.underlying28 ht hw
      subst e
      have q0 := hat 0 (by omega)
      obtain rfl := hspot (by omega)
      rw [add_plain, add_plain] at q0
      exact ⟨⟨a1, k1, xs⟩, by simpa [R.val] using q0, h1, h2, h3⟩
    have : Inhabited R := ⟨⟨none, 0, []⟩⟩
    obtain ⟨F, hF⟩ := choose_lt key
    have hmem : ∀ r ∈ (List.range len).map F, ∃ i, i < len ∧ F i = r := fun r hr => by
      obtain ⟨i, hi', rfl⟩ := List.mem_map.1 hr
      exact ⟨i, List.mem_range.1 hi', rfl⟩
    refine ⟨(List.range len).map F, by simp, ⟨fun hl0 => ?_, fun r hr => ?_⟩, by simp; omega, fun r hr => ?_, hl, hcap⟩
    · have hl0' : 0 < len := by simpa using hl0
      obtain rfl := hspot hl0'
      refine ⟨b, o, rfl, cell_in (hF 0 hl0').1, fun j hj => ?_⟩
      have hj' : j < len := by simpa using hj
      have := (hF j hj').1
      simpa using this
    · obtain ⟨i, hi', rfl⟩ := hmem r hr
      exact (hF i hi').2.1
    · obtain ⟨i, hi', rfl⟩ := hmem r hr
      exact (hF i hi').2.2
end
end Go.Proofs.YtkmnlfbllfaieaaDoor
