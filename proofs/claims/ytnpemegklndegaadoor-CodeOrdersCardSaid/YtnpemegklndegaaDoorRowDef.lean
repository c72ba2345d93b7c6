/- A row in memory: its values, one behind the other; what becomes of it when memory grows. Plain facts on checking a row. No condition. -/
import Derived.Test.YtnpemegklndegaaDoorVal0
import Derived.StillTailTactics
namespace Go.Proofs.YtnpemegklndegaaDoor
open Go.RowKit

def CellsAt (w : World) (b off : Nat) (v : V) : Prop := w.cell? ⟨b, off, none⟩ = some (.int .i64 v.k) ∧ w.cell? ⟨b, off + 1, none⟩ = some (.int .i64 v.i) ∧ w.cell? ⟨b, off + 2, none⟩ = some (.string v.s)
def RowAt (w : World) (B : Nat) (A : Option Addr) (xs : List V) : Prop := 0 < xs.length → ∃ b off, A = some ⟨b, off, none⟩ ∧ b < B ∧ ∀ j (h : j < xs.length), CellsAt w b (off + j * 3) xs[j]
def V.chk (v : V) : Int := chkI v.k v.i v.s
def allOk (xs : List V) : Bool := xs.all fun v => v.chk == 0
def chkR (xs : List V) : Int := if allOk xs then (if 64 < xs.length then 2 else 0) else 1

theorem allOk_snoc {xs : List V} {k : Nat} (h : k < xs.length) (h0 : xs[k].chk = 0) (ha : allOk (xs.take k) = true) : allOk (xs.take (k + 1)) = true := by
  unfold allOk at ha ⊢
  rw [List.take_succ_eq_append_getElem h, List.all_append, ha]
  simp [h0]
theorem chkR_bad {xs : List V} {k : Nat} {r : Int} (h : k < xs.length) (hx : xs[k].chk = r) (hr : ¬ r = 0) : r = chkR xs := by
  have h1 : r = 1 := by
    rw [← hx] at hr ⊢
    unfold V.chk chkI at hr ⊢
    split at hr <;> simp_all
  have h2 : allOk xs = false := by
    unfold allOk
    rw [List.all_eq_false]
    exact ⟨xs[k], List.getElem_mem h, by rw [hx]; simpa using hr⟩
  unfold chkR
  rw [h2, h1]
  rfl
theorem chkR_good {xs : List V} {n : Nat} {r : Int} (hn : n = xs.length) (ha : allOk (xs.take n) = true) (hr : r = if 64 < n then 2 else 0) : r = chkR xs := by
  subst hn
  rw [List.take_length] at ha
  unfold chkR
  rw [ha, hr]
  rfl

theorem RowAt.below {w w' : World} {B : Nat} {A : Option Addr} {xs : List V} (h : RowAt w B A xs) (hb : Below B w w') : RowAt w' B A xs := by
  intro hl
  obtain ⟨b, off, hA, hlt, hc⟩ := h hl
  refine ⟨b, off, hA, hlt, fun j hj => ?_⟩
  obtain ⟨h1, h2, h3⟩ := hc j hj
  exact ⟨(hb.cell (p := ⟨b, _, none⟩) hlt).trans h1, (hb.cell (p := ⟨b, _, none⟩) hlt).trans h2, (hb.cell (p := ⟨b, _, none⟩) hlt).trans h3⟩

theorem RowAt.mono {w : World} {B B' : Nat} {A : Option Addr} {xs : List V} (h : RowAt w B A xs) (hB : B ≤ B') : RowAt w B' A xs := fun hl => by
  obtain ⟨b, off, hA, hlt, hc⟩ := h hl
  exact ⟨b, off, hA, by omega, hc⟩
theorem RowAt.later {w w' : World} {A : Option Addr} {xs : List V} (h : RowAt w w.heap.size A xs) (hb : Below w.heap.size w w') : RowAt w' w'.heap.size A xs := (h.below hb).mono hb.size
theorem bthen {w w1 w2 : World} (h : Below w.heap.size w w1) (h' : Below w1.heap.size w1 w2) : Below w.heap.size w w2 := h.trans (h'.mono h.size)
def RowSmall (xs : List V) : Prop := xs.length ≤ 140737488355328 ∧ ∀ v ∈ xs, v.s.size ≤ 140737488355328
structure R where
  A : Option Addr
  c : Nat
  xs : List V
def R.val (r : R) : Value := .slice r.A r.xs.length r.c
def RowsAt (w : World) (B : Nat) (A : Option Addr) (rs : List R) : Prop :=
  (0 < rs.length → ∃ b off, A = some ⟨b, off, none⟩ ∧ b < B ∧ ∀ j (h : j < rs.length), w.cell? ⟨b, off + j, none⟩ = some rs[j].val) ∧ ∀ r ∈ rs, RowAt w B r.A r.xs
theorem RowsAt.below {w w' : World} {B : Nat} {A : Option Addr} {rs : List R} (h : RowsAt w B A rs) (hb : Below B w w') : RowsAt w' B A rs := by
  refine ⟨fun hl => ?_, fun r hr => (h.2 r hr).below hb⟩
  obtain ⟨b, off, hA, hlt, hc⟩ := h.1 hl
  exact ⟨b, off, hA, hlt, fun j hj => (hb.cell (p := ⟨b, _, none⟩) hlt).trans (hc j hj)⟩

/-- Rows laid side by side in a block of their own: what a call of a variadic function makes. -/
theorem rows_made (w : World) (rs : List R) (hrs : ∀ r ∈ rs, RowAt w w.heap.size r.A r.xs) (cs : Array Value) (hcs : cs = (rs.map R.val).toArray) (T : TypeId) :
    RowsAt (w.alloc (.cells cs T)) (w.alloc (.cells cs T)).heap.size (some ⟨w.heap.size, 0, none⟩) rs := by
  refine ⟨fun _ => ⟨w.heap.size, 0, rfl, by simp, fun j hj => ?_⟩, fun r hr => (hrs r hr).later (Below.alloc (Below.refl _ _) (Nat.le_refl _) _)⟩
  have hn : (w.alloc (.cells cs T)).heap[w.heap.size]? = some (.cells cs T (0, 0)) := heap_alloc_new w _
  rw [Lib.cell_of_heap hn, hcs]
  simp [hj]
theorem all1 {P : R → Prop} {a : R} (h1 : P a) : ∀ r ∈ [a], P r := by
  intro r hr
  simp at hr
  exact hr ▸ h1
theorem all2 {P : R → Prop} {a b : R} (h1 : P a) (h2 : P b) : ∀ r ∈ [a, b], P r := by
  intro r hr
  simp at hr
  rcases hr with h | h
  · exact h ▸ h1
  · exact h ▸ h2
theorem all3 {P : R → Prop} {a b c : R} (h1 : P a) (h2 : P b) (h3 : P c) : ∀ r ∈ [a, b, c], P r := by
  intro r hr
  simp at hr
  rcases hr with h | h | h
  · exact h ▸ h1
  · exact h ▸ h2
  · exact h ▸ h3
/-- A value in a block of its own. -/
def Box (w : World) (g : Nat) (v : V) : Prop := CellsAt w g 0 v ∧ g < w.heap.size
theorem Box.below {w w' : World} {g : Nat} {v : V} (h : Box w g v) (hb : Below w.heap.size w w') : Box w' g v :=
  ⟨⟨(hb.cell (p := ⟨g, 0, none⟩) h.2).trans h.1.1, (hb.cell (p := ⟨g, 0 + 1, none⟩) h.2).trans h.1.2.1, (hb.cell (p := ⟨g, 0 + 2, none⟩) h.2).trans h.1.2.2⟩, Nat.lt_of_lt_of_le h.2 hb.size⟩
theorem Box.made (w : World) (v : V) : Box (w.alloc (.cells #[.int .i64 v.k, .int .i64 v.i, .string v.s] 43)) w.heap.size v := by
  have hn : (w.alloc (.cells #[.int .i64 v.k, .int .i64 v.i, .string v.s] 43)).heap[w.heap.size]? = some (.cells _ 43 (0, 0)) := heap_alloc_new w _
  exact ⟨⟨by rw [Lib.cell_of_heap hn]; rfl, by rw [Lib.cell_of_heap hn]; rfl, by rw [Lib.cell_of_heap hn]; rfl⟩, by simp⟩
end Go.Proofs.YtnpemegklndegaaDoor
