/- A row of ints that is being sorted: what stays as it was, what a comparison gives. No condition. -/
import Derived.Test.YtkmnlfbllfaieaaDoorProg
import Derived.WalkKit
import Derived.WalkSpells
import Derived.Lib.Hide
import Derived.Deep.Light
import Derived.Deep.Cut
import Derived.Deep.Quiet
import Derived.BigQuiet
import Derived.Deep.QuietTactic
import Derived.Sort.Defs
import Derived.Lib.BufferMore
namespace Go.Proofs.YtkmnlfbllfaieaaDoor
open Go.RowKit
/-- The world W is w but for the block b, which holds the row d, and for new blocks. -/
structure SW (w : World) (b : Nat) (d : Array Int) (W : World) : Prop where
  os : W.os = w.os
  tape : W.tape = w.tape
  output : W.output = w.output
  size : w.heap.size ≤ W.heap.size
  other : ∀ k, k < w.heap.size → k ≠ b → W.heap[k]? = w.heap[k]?
  row : W.heap[b]? = some (.cells (d.map (Value.int .i64)) 3 (0, 0))
theorem SW.call {w W W2 : World} {b : Nat} {d : Array Int} (h : SW w b d W) (hb : Below W.heap.size W W2) : SW w b d W2 :=
  ⟨hb.os.trans h.os, hb.tape.trans h.tape, hb.output.trans h.output, Nat.le_trans h.size hb.size, fun k hk hne => (hb.block k (Nat.lt_of_lt_of_le hk h.size)).trans (h.other k hk hne), (hb.block b (Array.getElem?_eq_some_iff.1 h.row).1).trans h.row⟩
theorem SW.drew {w W : World} {b : Nat} {d : Array Int} (h : SW w b d W) : SW w b d W.drew := h.call (Below.refl _ W).drew
theorem SW.alloc {w W : World} {b : Nat} {d : Array Int} (h : SW w b d W) (o : Obj) : SW w b d (W.alloc o) := h.call ((Below.refl _ W).alloc (Nat.le_refl _) o)
theorem SW.cell {w W : World} {b : Nat} {d : Array Int} (h : SW w b d W) (j : Nat) (hj : j < d.size) : W.cell? ⟨b, j, none⟩ = some (.int .i64 d[j]!) := by
  rw [Lib.cell_of_heap h.row]
  simp [hj]
theorem SW.free {w W : World} {b : Nat} {d : Array Int} (h : SW w b d W) (j : Nat) : W.frozen? ⟨b, j, none⟩ = false := Lib.frozen_of_heap h.row j
/-- What the comparison gives, of any two that may stand in the row: its own memory aside nothing changes. -/
def CmpOf (w : World) (b : Nat) (P : Int → Prop) (cf : Int → Int → Int) (rv : Value) : Prop :=
  ∀ (d : Array Int) (W : World), SW w b d W → ∀ x y, P x → P y → Calls Tryd.prog 37 #[rv, .int .i64 x, .int .i64 y] W fun e w' => e = .returned (.int .i64 (cf x y)) ∧ Below W.heap.size W w'
def SWT (w : World) (b : Nat) (d : Array Int) : Type := { W : World // SW w b d W }
theorem wp_region_class {P : Program} {id : Nat} {Q : Exit → Act → World → Prop} {a : Act} {w : World} {l : List Oper} (C : World → Prop) (hm : P.follows .mixedOrders = true) (hB : Region.lexB .any l.toArray = true) (hC : C w.drew) (h : wpQuiet P l.toArray C (fun a' => ∀ w', C w' → Q .normal a' w') l a) : (Code.region id l.toArray true).wp P Q a w :=
  wp_region_quiet (C := C) hm hB hC (by simpa using h)
def ltOf (cf : Int → Int → Int) (x y : Int) : Bool := decide (cf x y < 0)
/-- A variable of a caller's own that counts the turns. -/
def PBox (w : World) (p : Nat) (s : Nat) (W : World) : Prop := w.heap.size ≤ p ∧ W.heap[p]? = some (.cells #[.int .i64 s] 3 (0, 0))
theorem PBox.lt {w W : World} {p s : Nat} (h : PBox w p s W) : p < W.heap.size := (Array.getElem?_eq_some_iff.1 h.2).1
theorem PBox.call {w W W2 : World} {p s : Nat} (h : PBox w p s W) (hb : Below W.heap.size W W2) : PBox w p s W2 := ⟨h.1, (hb.block p h.lt).trans h.2⟩
theorem PBox.cell {w W : World} {p s : Nat} (h : PBox w p s W) : W.cell? ⟨p, 0, none⟩ = some (.int .i64 s) ∧ W.frozen? ⟨p, 0, none⟩ = false := ⟨by rw [Lib.cell_of_heap h.2]; rfl, Lib.frozen_of_heap h.2 0⟩
theorem PBox.set {w W : World} {p s s' : Nat} (h : PBox w p s W) {x : Int} (hx : x = s') : PBox w p s' (W.setCell ⟨p, 0, none⟩ (.int .i64 x)) := by
  subst hx
  refine ⟨h.1, ?_⟩
  rw [Lib.heap_setCell_same h.2 _]
  rfl
theorem SW.setOut {w W : World} {b p : Nat} {d : Array Int} (h : SW w b d W) (hb : b < w.heap.size) (hp : w.heap.size ≤ p) (x : Value) : SW w b d (W.setCell ⟨p, 0, none⟩ x) := by
  refine ⟨h.os, h.tape, h.output, by simpa using h.size, fun k hk hne => ?_, ?_⟩
  · rw [Below.heap_setCell _ _ _ _ (by show k ≠ p; omega)]; exact h.other k hk hne
  · rw [Below.heap_setCell _ _ _ _ (by show b ≠ p; omega)]; exact h.row
end Go.Proofs.YtkmnlfbllfaieaaDoor
