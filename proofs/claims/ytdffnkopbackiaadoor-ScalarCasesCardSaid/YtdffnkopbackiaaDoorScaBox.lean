/- Boxes of values that a walk lays one behind the other: each stays as it was; what may be read of it, and that it may be written. No condition. -/
import Derived.Test.YtdffnkopbackiaaDoorScaArith
namespace Go.Proofs.YtdffnkopbackiaaDoor
open Go.RowKit
def VBox (w : World) (b : Nat) (v : V) : Prop := w.heap[b]? = some (.cells #[.int .i64 v.k, .int .i64 v.i, .string v.s] 23 (0, 0))
theorem VBox.lt {w : World} {b : Nat} {v : V} (h : VBox w b v) : b < w.heap.size := (Array.getElem?_eq_some_iff.1 h).1
theorem VBox.cells {w : World} {b : Nat} {v : V} (h : VBox w b v) : w.cell? ⟨b, 0, none⟩ = some (.int .i64 v.k) ∧ w.cell? ⟨b, 1, none⟩ = some (.int .i64 v.i) ∧ w.cell? ⟨b, 2, none⟩ = some (.string v.s) :=
  ⟨by rw [Lib.cell_of_heap h]; rfl, by rw [Lib.cell_of_heap h]; rfl, by rw [Lib.cell_of_heap h]; rfl⟩
theorem VBox.free {w : World} {b : Nat} {v : V} (h : VBox w b v) : w.frozen? ⟨b, 0, none⟩ = false ∧ w.frozen? ⟨b, 1, none⟩ = false ∧ w.frozen? ⟨b, 2, none⟩ = false :=
  ⟨Lib.frozen_of_heap h 0, Lib.frozen_of_heap h 1, Lib.frozen_of_heap h 2⟩
theorem VBox.later {w w' : World} {b : Nat} {v : V} (h : VBox w b v) (hb : Below w.heap.size w w') : VBox w' b v := (hb.block b h.lt).trans h
theorem VBox.made (w : World) (v : V) : VBox (w.alloc (.cells #[.int .i64 v.k, .int .i64 v.i, .string v.s] 23)) w.heap.size v := heap_alloc_new w _
theorem VBox.madeAt {w : World} {H : Nat} (hH : w.heap.size = H) (v : V) : VBox (w.alloc (.cells #[.int .i64 v.k, .int .i64 v.i, .string v.s] 23)) H v := by subst hH; exact VBox.made w v
def VBoxes : List (Nat × V) → World → Prop
  | [], _ => True
  | p :: l, W => VBox W p.1 p.2 ∧ VBoxes l W
theorem VBoxes.later {l : List (Nat × V)} {w w' : World} (h : VBoxes l w) (hb : Below w.heap.size w w') : VBoxes l w' := by
  induction l with
  | nil => trivial
  | cons p l ih => exact ⟨h.1.later hb, ih h.2⟩
theorem VBoxes.drew {l : List (Nat × V)} {w : World} (h : VBoxes l w) : VBoxes l w.drew := h.later ((Below.refl _ w).drew)
/-- The boxes l in the world W; and all that was there in w. -/
structure HV (w : World) (l : List (Nat × V)) (W : World) : Prop where
  below : Below w.heap.size w W
  boxes : VBoxes l W
theorem HV.nil (w : World) : HV w [] w := ⟨Below.refl _ _, trivial⟩
theorem HV.call {w W W2 : World} {l : List (Nat × V)} (h : HV w l W) (hb : Below W.heap.size W W2) : HV w l W2 := ⟨bthen h.below hb, h.boxes.later hb⟩
theorem HV.alloc {w W : World} {l : List (Nat × V)} (h : HV w l W) (o : Obj) : HV w l (W.alloc o) := h.call ((Below.refl _ _).alloc (Nat.le_refl _) o)
theorem HV.push {w W : World} {l : List (Nat × V)} (h : HV w l W) (v : V) : HV w ((W.heap.size, v) :: l) (W.alloc (.cells #[.int .i64 v.k, .int .i64 v.i, .string v.s] 23)) :=
  ⟨(h.alloc _).below, VBox.made W v, (h.alloc _).boxes⟩
theorem HV.pushAt {w W : World} {l : List (Nat × V)} {H : Nat} (hH : W.heap.size = H) (h : HV w l W) (v : V) : HV w ((H, v) :: l) (W.alloc (.cells #[.int .i64 v.k, .int .i64 v.i, .string v.s] 23)) := by
  subst hH
  exact h.push v
theorem HV.drew {w W : World} {l : List (Nat × V)} (h : HV w l W) : HV w l W.drew := ⟨h.below.drew, h.boxes.drew⟩
theorem HV.drewN {w W : World} {l : List (Nat × V)} (h : HV w l W) (n : Nat) : HV w l (W.drewN n) := h.call (below_drewN (Below.refl _ _) n)
theorem HV.tail {w W : World} {l : List (Nat × V)} {p : Nat × V} (h : HV w (p :: l) W) : HV w l W := ⟨h.below, h.boxes.2⟩
theorem HV.box {w W : World} {l : List (Nat × V)} {p : Nat × V} (h : HV w (p :: l) W) : VBox W p.1 p.2 := h.boxes.1
theorem Below.set3 {B : Nat} {a w : World} (h : Below B a w) {b : Nat} (hb : B ≤ b) (x y z : Value) : Below B a (((w.setCell ⟨b, 0, none⟩ x).setCell ⟨b, 1, none⟩ y).setCell ⟨b, 2, none⟩ z) := ((h.setCell hb _).setCell hb _).setCell hb _
/-- What reads a box of a value, cells and all. -/
theorem HV.read {w W : World} {l : List (Nat × V)} {b : Nat} {v : V} (h : HV w ((b, v) :: l) W) : W.cell? ⟨b, 0, none⟩ = some (.int .i64 v.k) ∧ W.cell? ⟨b, 1, none⟩ = some (.int .i64 v.i) ∧ W.cell? ⟨b, 2, none⟩ = some (.string v.s) := h.box.cells
/-- A function value held against nil. -/
theorem run_eql_func_nil (w : World) (fn : Go.Fn) (f c : Array Value) : (binOp .eql 46 (.func fn f c) .nilFunc).run Tryd.prog w = .ok (.bool false) w := by
  have h : ∀ d : Nat, (Op.equalIn (d + 1) 46 (.func fn f c) .nilFunc).run Tryd.prog w = .ok false w := fun d => by
    simp [Op.equalIn, run_underlying Tryd.underlying46]
  simp only [binOp]
  simp [Op.equal, Op.maxDepth, h 9999]
theorem run_eql_nil_nil (w : World) : (binOp .eql 46 .nilFunc .nilFunc).run Tryd.prog w = .ok (.bool true) w := by
  have h : ∀ d : Nat, (Op.equalIn (d + 1) 46 .nilFunc .nilFunc).run Tryd.prog w = .ok true w := fun d => by
    simp [Op.equalIn, run_underlying Tryd.underlying46]
  simp only [binOp]
  simp [Op.equal, Op.maxDepth, h 9999]
theorem bele {w w' : World} {H : Nat} (h : Below H w w') (hH : w.heap.size = H) : Below w.heap.size w w' := by subst hH; exact h
end Go.Proofs.YtdffnkopbackiaaDoor
