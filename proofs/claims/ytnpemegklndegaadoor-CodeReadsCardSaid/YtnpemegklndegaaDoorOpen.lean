/- What a row that came in reads as: its values one by one, each within the bounds of its kind, and the form's own reach on their sizes. No condition. -/
import Derived.Test.YtnpemegklndegaaDoorRowDef
import Derived.Deep.Slices
import Derived.Deep.Fields
import Derived.ChangeSame
import Derived.SizedLaws
import Derived.Lib.SmallJoins
namespace Go.Proofs.YtnpemegklndegaaDoor
open Go.RowKit Go.ChangeShapes Go.WideShapes Go.Deep
section
variable {H : Type} {enc : TypeId × Value → H} {W : World}
theorem weightsAll_mem {P : Program} {e : TypeId} : ∀ {ds : List (DataW H)} {d : DataW H}, d ∈ ds → ∀ n ∈ d.weights P e, n ∈ DataW.weightsAll P e ds
  | d0 :: ds, d, hd, n, hn => by
    simp only [DataW.weightsAll, List.mem_append]
    rcases List.mem_cons.1 hd with rfl | h
    · exact Or.inl hn
    · exact Or.inr (weightsAll_mem h n hn)
theorem weights_elem {P : Program} {t e : TypeId} {ds sp : List (DataW H)} (ht : P.underlying t = some (.slice e)) {d : DataW H} (hd : d ∈ ds) : ∀ n ∈ d.weights P e, n ∈ (DataW.slice ds sp : DataW H).weights P t := fun n hn => by
  simp only [DataW.weights, ht, List.mem_cons, List.mem_append]
  exact Or.inr (Or.inl (weightsAll_mem hd n hn))
theorem cell_in {w : World} {b o : Nat} {v : Value} (h : w.cell? ⟨b, o, none⟩ = some v) : b < w.heap.size := by
  rcases Nat.lt_or_ge b w.heap.size with h' | h'
  · exact h'
  · simp [World.cell?, Array.getElem?_eq_none h'] at h
def V.fits (v : V) : Prop := -9223372036854775808 ≤ v.k ∧ v.k ≤ 9223372036854775807 ∧ -9223372036854775808 ≤ v.i ∧ v.i ≤ 9223372036854775807
theorem wf64 {n : Int} (h : (Lit.int .i64 n).wf = true) : -9223372036854775808 ≤ n ∧ n ≤ 9223372036854775807 := by
  simpa [Lit.wf, IntKind.min, IntKind.max, IntKind.signed, IntKind.bits] using h
theorem len3 {α : Type} {l : List α} (h : l.length = 3) : ∃ a b c, l = [a, b, c] := by
  match l, h with
  | [a, b, c], _ => exact ⟨a, b, c, rfl⟩
set_option maxRecDepth 100000 in
/-- Values that came in as a slice, opened, one by one. -/
theorem open_vals {ts : TypeId} (hts : Tryd.prog.underlying ts = some (.slice 43)) {fuel : Nat} {a0 : Option Addr} {len cap : Nat} {x : DataW H × List MemPlace} (hf : DataW.trod enc Tryd.prog W 0 (fun _ => true) true fuel ts [.slice a0 len cap] = some x) (hsz : ∀ n ∈ x.1.weights Tryd.prog ts, n ≤ reachBytes) :
    ∃ xs : List V, xs.length = len ∧ RowAt W W.heap.size a0 xs ∧ xs.length ≤ 140737488355328 ∧ (∀ v ∈ xs, v.s.size ≤ 140737488355328) ∧ (∀ v ∈ xs, v.fits) ∧ len ≤ cap ∧ cap ≤ 140737488355328 := by
  rcases open_slice hts hf with ⟨hcs, hx⟩ | ⟨a, len', cap', m, n, D, Pl, hcs, hb, hl, hm, hmm, hx, hi⟩
  · simp at hcs
    obtain ⟨rfl, rfl, rfl⟩ := hcs
    exact ⟨[], rfl, fun h => absurd h (by simp), by simp, by simp, by simp, Nat.le_refl _, by omega⟩
  · simp at hcs
    obtain ⟨rfl, rfl, rfl⟩ := hcs
    subst hx
    simp only [if_true] at hmm
    subst hmm
    have c29 : Tryd.prog.cellsOf 43 = 3 := by kernel_rfl
    have b29 : Tryd.prog.bytesOf 43 = 32 := by kernel_rfl
    have hcap : m ≤ 140737488355328 := by
      have := hsz ((((List.range len).map D).length + ((List.range (m - len)).map fun j => D (len + j)).length) * Tryd.prog.bytesOf 43) (by simp only [DataW.weights, hts, List.mem_cons]; exact Or.inl trivial)
      rw [b29] at this
      simp at this
      have := reachBytes_lt
      omega
    obtain ⟨b, o, spot⟩ := a
    have hspot : 0 < len → spot = none := by
      intro h0
      obtain ⟨cs', hc, _⟩ := hi 0 (by omega)
      rw [c29] at hc
      obtain ⟨_, hcl, hat⟩ := World.cells?_some hc
      obtain ⟨v0, v1, v2, rfl⟩ := len3 hcl
      have q0 := hat 0 (by omega)
      have := World.cell?_spot (show W.cell? _ = some _ from q0)
      simpa [Addr.add] using this
    have key : ∀ i, i < len → ∃ v : V, CellsAt W b (o + i * 3) v ∧ v.fits ∧ D i = .agg [.lit (.int .i64 v.k), .lit (.int .i64 v.i), .lit (.string v.s.data.toList)] := by
      intro i hil
      obtain ⟨cs', hc, ht⟩ := hi i (by omega)
      rw [c29] at hc
      obtain ⟨_, hcl, hat⟩ := World.cells?_some hc
      obtain ⟨ys, n', _, hy, _, hyl, hf'⟩ := DataW.trod_struct Tryd.underlying43 ht
      obtain ⟨y0, y1, y2, rfl⟩ := len3 hyl
      obtain ⟨v0, v1, v2, rfl⟩ := len3 hcl
      have g0 := hf' 0 _ rfl
      have g1 := hf' 1 _ rfl
      have g2 := hf' 2 _ rfl
      have c3 : Tryd.prog.cellsOf 3 = 1 := by kernel_rfl
      have c2 : Tryd.prog.cellsOf 2 = 1 := by kernel_rfl
      have c9 : Tryd.prog.cellsOf 9 = 1 := by kernel_rfl
      obtain ⟨k, e0, e0', wk⟩ := DataW.trod_int Tryd.underlying3 (show DataW.trod enc Tryd.prog W 0 (fun _ => true) true n' 3 (([v0, v1, v2].drop 0).take (Tryd.prog.cellsOf 3)) = some y0 from g0)
      obtain ⟨j, e1, e1', wj⟩ := DataW.trod_int Tryd.underlying2 (show DataW.trod enc Tryd.prog W 0 (fun _ => true) true n' 2 (([v0, v1, v2].drop 1).take (Tryd.prog.cellsOf 2)) = some y1 from g1)
      obtain ⟨s, e2, e2', ws⟩ := DataW.trod_string Tryd.underlying9 (show DataW.trod enc Tryd.prog W 0 (fun _ => true) true n' 9 (([v0, v1, v2].drop 2).take (Tryd.prog.cellsOf 9)) = some y2 from g2)
      rw [c3] at e0
      rw [c2] at e1
      rw [c9] at e2
      simp at e0 e1 e2
      subst e0 e1 e2
      have q0 := hat 0 (by omega)
      have q1 := hat 1 (by omega)
      have q2 := hat 2 (by omega)
      obtain rfl := hspot (by omega)
      rw [add_plain, add_plain] at q0 q1 q2
      simp only [Prod.mk.injEq] at hy
      exact ⟨⟨k, j, s⟩, ⟨q0, q1, q2⟩, ⟨(wf64 wk).1, (wf64 wk).2, (wf64 wj).1, (wf64 wj).2⟩, by rw [hy.1, e0', e1', e2']; rfl⟩
    have : Inhabited V := ⟨⟨0, 0, ⟨#[]⟩⟩⟩
    obtain ⟨F, hF⟩ := choose_lt key
    have hmem : ∀ v ∈ (List.range len).map F, ∃ i, i < len ∧ F i = v := fun v hv => by
      obtain ⟨i, hi', rfl⟩ := List.mem_map.1 hv
      exact ⟨i, List.mem_range.1 hi', rfl⟩
    refine ⟨(List.range len).map F, by simp, fun hl0 => ?_, by simp; omega, fun v hv => ?_, fun v hv => ?_, hl, hcap⟩
    · have hl0' : 0 < len := by simpa using hl0
      obtain rfl := hspot hl0'
      refine ⟨b, o, rfl, cell_in (hF 0 hl0').1.1, fun j hj => ?_⟩
      have hj' : j < len := by simpa using hj
      have := (hF j hj').1
      simpa using this
    · obtain ⟨i, hi', rfl⟩ := hmem v hv
      have h1 := hsz (F i).s.data.toList.length (weights_elem hts (d := D i) (List.mem_map.2 ⟨i, List.mem_range.2 hi', rfl⟩) _ (by
        rw [(hF i hi').2.2]
        simp [DataW.weights, Tryd.underlying43, DataW.weightsEach]))
      have := reachBytes_lt
      have h2 : (F i).s.data.toList.length = (F i).s.size := by simp
      omega
    · obtain ⟨i, hi', rfl⟩ := hmem v hv
      exact (hF i hi').2.1
/-- A row that came in, opened: its values, one by one. -/
theorem open_row {fuel : Nat} {a0 : Option Addr} {len cap : Nat} {x : DataW H × List MemPlace} (hf : DataW.trod enc Tryd.prog W 0 (fun _ => true) true fuel 23 [.slice a0 len cap] = some x) (hsz : ∀ n ∈ x.1.weights Tryd.prog 23, n ≤ reachBytes) :
    ∃ xs : List V, xs.length = len ∧ RowAt W W.heap.size a0 xs ∧ xs.length ≤ 140737488355328 ∧ (∀ v ∈ xs, v.s.size ≤ 140737488355328) ∧ (∀ v ∈ xs, v.fits) ∧ len ≤ cap ∧ cap ≤ 140737488355328 := open_vals Tryd.underlying23 hf hsz
set_option maxRecDepth 100000 in
/-- A value that came in, opened. -/
theorem open_value {r : Reach} {b0 : Nat} {v : Value} {d : DataW H} {p : List MemPlace} (hv : Value.okWide Tryd.prog W r b0 43 v) (h : DataW.Trod enc Tryd.prog W 0 (fun _ => true) true 43 v d p) (hsz : ∀ n ∈ d.weights Tryd.prog 43, n ≤ reachBytes) :
    ∃ x : V, v = .agg #[.int .i64 x.k, .int .i64 x.i, .string x.s] ∧ x.s.size ≤ 140737488355328 ∧ x.fits := by
  obtain ⟨v0, v1, v2, y0, y1, y2, n, rfl, rfl, rfl, g0, g1, g2⟩ := Go.Joins.open_agg3 Tryd.underlying43 (by kernel_rfl) (by kernel_rfl) hv h
  obtain ⟨k, e0, e0', wk⟩ := DataW.trod_int Tryd.underlying3 (show DataW.trod enc Tryd.prog W 0 (fun _ => true) true n 3 [v0] = some y0 from g0)
  obtain ⟨j, e1, e1', wj⟩ := DataW.trod_int Tryd.underlying2 (show DataW.trod enc Tryd.prog W 0 (fun _ => true) true n 2 [v1] = some y1 from g1)
  obtain ⟨s, e2, e2', ws⟩ := DataW.trod_string Tryd.underlying9 (show DataW.trod enc Tryd.prog W 0 (fun _ => true) true n 9 [v2] = some y2 from g2)
  simp at e0 e1 e2
  subst e0 e1 e2
  refine ⟨⟨k, j, s⟩, rfl, ?_, ⟨(wf64 wk).1, (wf64 wk).2, (wf64 wj).1, (wf64 wj).2⟩⟩
  have h1 := hsz s.data.toList.length (by rw [e0', e1', e2']; simp [DataW.weights, Tryd.underlying43, DataW.weightsEach])
  have := reachBytes_lt
  have h2 : s.data.toList.length = s.size := by simp
  show s.size ≤ _
  omega
end
end Go.Proofs.YtnpemegklndegaaDoor
