/- Boxes of values that a statement reads in whatever order: what becomes of them when memory grows. No condition. -/
import Derived.Test.YtdffnkopbackiaaDoorScaCallA
import Derived.Test.YtdffnkopbackiaaDoorScaCallB
import Derived.Test.YtdffnkopbackiaaDoorScaLive
import Derived.Lib.BufferMore
import Derived.Deep.DeepCutAuto
import Derived.Deep.RegionHeld3
namespace Go.Proofs.YtdffnkopbackiaaDoor
open Go.RowKit
theorem VBox.alloc {w : World} {b : Nat} {v : V} (h : VBox w b v) (o : Obj) : VBox (w.alloc o) b v := h.later ((Below.refl _ _).alloc (Nat.le_refl _) o)
theorem VBox.set {w : World} {b : Nat} {v : V} (h : VBox w b v) (u : V) : VBox (((w.setCell ⟨b, 0, none⟩ (.int .i64 u.k)).setCell ⟨b, 1, none⟩ (.int .i64 u.i)).setCell ⟨b, 2, none⟩ (.string u.s)) b u := by
  unfold VBox
  rw [Lib.heap_setCell_same (Lib.heap_setCell_same (Lib.heap_setCell_same h _) _) _]
  rfl
theorem VBox.drew {w : World} {b : Nat} {v : V} (h : VBox w b v) : VBox w.drew b v := h
def Boxes : List (Nat × V) → World → Prop
  | [], _ => True
  | p :: l, w' => w'.cell? ⟨p.1, 0, none⟩ = some (.int .i64 p.2.k) ∧ w'.cell? ⟨p.1, 1, none⟩ = some (.int .i64 p.2.i) ∧ w'.cell? ⟨p.1, 2, none⟩ = some (.string p.2.s) ∧ Boxes l w'
def AllLt (top : Nat) (l : List (Nat × V)) : Prop := ∀ p ∈ l, p.1 < top
theorem Boxes.same {l : List (Nat × V)} {top : Nat} {w w' : World} (hl : AllLt top l) (h : Boxes l w) (hc : ∀ b o, b < top → w'.cell? ⟨b, o, none⟩ = w.cell? ⟨b, o, none⟩) : Boxes l w' := by
  induction l with
  | nil => trivial
  | cons p l ih =>
    obtain ⟨h0, h1, h2, h3⟩ := h
    have hp := hl p (by simp)
    exact ⟨(hc _ _ hp).trans h0, (hc _ _ hp).trans h1, (hc _ _ hp).trans h2, ih (fun q hq => hl q (by simp [hq])) h3⟩
/-- The boxes l, all below top; and all that was there before. -/
def Held (w : World) (top : Nat) (l : List (Nat × V)) (w' : World) : Prop := top ≤ w'.heap.size ∧ Below w.heap.size w w' ∧ Boxes l w'
theorem Held.later {w w' w2 : World} {top : Nat} {l : List (Nat × V)} (hl : AllLt top l) (hw : w.heap.size ≤ top) (h : Held w top l w') (hb : Below w'.heap.size w' w2) : Held w top l w2 :=
  ⟨Nat.le_trans h.1 hb.size, h.2.1.trans (hb.mono (Nat.le_trans hw h.1)), h.2.2.same hl (fun b o hlt => hb.cell (p := ⟨b, o, none⟩) (Nat.lt_of_lt_of_le hlt h.1))⟩
theorem Held.alloc {w w' : World} {top : Nat} {l : List (Nat × V)} (hl : AllLt top l) (hw : w.heap.size ≤ top) (h : Held w top l w') (o : Obj) : Held w top l (w'.alloc o) :=
  h.later hl hw ((Below.refl _ _).alloc (Nat.le_refl _) o)
theorem Held.drew {w w' : World} {top : Nat} {l : List (Nat × V)} (h : Held w top l w') : Held w top l w'.drew := by
  refine ⟨h.1, h.2.1.drew, ?_⟩
  have := h.2.2
  revert this
  clear h
  induction l with
  | nil => exact id
  | cons p l ih => exact fun h => ⟨h.1, h.2.1, h.2.2.1, ih h.2.2.2⟩
theorem Boxes.of {l : List (Nat × V)} {w : World} (h : ∀ p ∈ l, VBox w p.1 p.2) : Boxes l w := by
  induction l with
  | nil => trivial
  | cons p l ih =>
    have hp := (h p (by simp)).cells
    exact ⟨hp.1, hp.2.1, hp.2.2, ih (fun q hq => h q (by simp [hq]))⟩
theorem Held.of {w w' : World} {top : Nat} {l : List (Nat × V)} (ht : top ≤ w'.heap.size) (hb : Below w.heap.size w w') (h : Boxes l w') : Held w top l w' := ⟨ht, hb, h⟩
theorem allLt_nil {top : Nat} : AllLt top [] := fun _ h => by cases h
theorem allLt_cons {top : Nat} {p : Nat × V} {l : List (Nat × V)} (h : p.1 < top) (hl : AllLt top l) : AllLt top (p :: l) := fun q hq => by
  rcases List.mem_cons.1 hq with rfl | hq
  · exact h
  · exact hl q hq
theorem boxes_nil {w : World} : Boxes [] w := trivial
theorem boxes_cons {w : World} {b : Nat} {v : V} {l : List (Nat × V)} (h : VBox w b v) (hl : Boxes l w) : Boxes ((b, v) :: l) w := ⟨h.cells.1, h.cells.2.1, h.cells.2.2, hl⟩
theorem Held.set3 {w w' : World} {top : Nat} {l : List (Nat × V)} (hl : AllLt top l) (hw : w.heap.size ≤ top) (h : Held w top l w') {b : Nat} (hb : top ≤ b) (x y z : Value) : Held w top l (((w'.setCell ⟨b, 0, none⟩ x).setCell ⟨b, 1, none⟩ y).setCell ⟨b, 2, none⟩ z) := by
  refine ⟨by simpa using h.1, Below.set3 h.2.1 (Nat.le_trans hw hb) x y z, h.2.2.same hl (fun b' o hlt => ?_)⟩
  refine World.cell?_of_block (w := w') ?_
  rw [Below.heap_setCell _ _ _ _ (by show b' ≠ b; omega), Below.heap_setCell _ _ _ _ (by show b' ≠ b; omega), Below.heap_setCell _ _ _ _ (by show b' ≠ b; omega)]
theorem Held.realloc {w w' : World} {top : Nat} {l : List (Nat × V)} {o : Obj} (hl : AllLt top l) (hw : w.heap.size ≤ top) (hs : top ≤ w'.heap.size) (h : Held w top l (w'.alloc o)) (o' : Obj) : Held w top l (w'.alloc o') := by
  obtain ⟨h1, h2, h3⟩ := h
  refine ⟨by simp; omega, ⟨h2.os, h2.tape, h2.output, by simp; omega, fun k hk => ?_⟩, h3.same hl (fun b o hlt => ?_)⟩
  · rw [← h2.block k hk, Below.heap_alloc _ _ _ (by omega), Below.heap_alloc _ _ _ (by omega)]
  · rw [World.cell?_alloc_lt _ _ _ (by show b < _; omega), World.cell?_alloc_lt _ _ _ (by show b < _; omega)]
theorem VBox.made'x {w : World} {H : Nat} (hH : w.heap.size = H) (v : V) : VBox (w.alloc (.cells #[.int .i64 v.k, .int .i64 v.i, .string v.s] 23)) H v := by
  subst hH
  exact VBox.made w v
theorem VBox.mk' {w : World} {H : Nat} {v : V} {k i : Int} {s : ByteArray} (hH : w.heap.size = H) (h1 : v.k = k) (h2 : v.i = i) (h3 : v.s = s) : VBox (w.alloc (.cells #[.int .i64 k, .int .i64 i, .string s] 23)) H v := by
  subst hH h1 h2 h3
  exact VBox.made w v
theorem VBox.raw0z {w : World} : VBox (w.alloc (.cells #[.int .i64 0, .int .i64 0, .string ⟨#[]⟩] 23)) w.heap.size zV := VBox.made w zV
theorem with_fact {A P : Prop} (h : A) (k : A → P) : P := k h
theorem VBox.set' {w : World} {b : Nat} {v : V} (h : VBox w b v) {k i : Int} {s : ByteArray} {u : V} (h1 : u.k = k) (h2 : u.i = i) (h3 : u.s = s) : VBox (((w.setCell ⟨b, 0, none⟩ (.int .i64 k)).setCell ⟨b, 1, none⟩ (.int .i64 i)).setCell ⟨b, 2, none⟩ (.string s)) b u := by
  subst h1 h2 h3
  exact h.set u
theorem Args.alloc {w : World} {H : Nat} {xs : List V} (h : Args w H xs) (o : Obj) : Args (w.alloc o) H xs := h.later ((Below.refl _ _).alloc (Nat.le_refl _) o)
/-- The boxes l in the world W, all below its end; and all that was there in w. -/
structure HB (w : World) (l : List (Nat × V)) (W : World) : Prop where
  below : Below w.heap.size w W
  lt : AllLt W.heap.size l
  boxes : Boxes l W
theorem HB.nil (w : World) : HB w [] w := ⟨Below.refl _ _, allLt_nil, trivial⟩
theorem HB.call {w W W2 : World} {l : List (Nat × V)} (h : HB w l W) (hb : Below W.heap.size W W2) : HB w l W2 :=
  ⟨bthen h.below hb, fun p hp => Nat.lt_of_lt_of_le (h.lt p hp) hb.size, h.boxes.same h.lt (fun b o hlt => hb.cell (p := ⟨b, o, none⟩) hlt)⟩
theorem HB.alloc {w W : World} {l : List (Nat × V)} (h : HB w l W) (o : Obj) : HB w l (W.alloc o) := h.call ((Below.refl _ _).alloc (Nat.le_refl _) o)
theorem HB.push {w W : World} {l : List (Nat × V)} (h : HB w l W) (v : V) : HB w ((W.heap.size, v) :: l) (W.alloc (.cells #[.int .i64 v.k, .int .i64 v.i, .string v.s] 23)) :=
  ⟨(h.alloc _).below, allLt_cons (by simp) (h.alloc _).lt, ⟨(VBox.made W v).cells.1, (VBox.made W v).cells.2.1, (VBox.made W v).cells.2.2, (h.alloc _).boxes⟩⟩
theorem HB.pushAt {w W : World} {l : List (Nat × V)} {H : Nat} (hH : W.heap.size = H) (h : HB w l W) (v : V) : HB w ((H, v) :: l) (W.alloc (.cells #[.int .i64 v.k, .int .i64 v.i, .string v.s] 23)) := by
  subst hH
  exact h.push v
theorem HB.drew {w W : World} {l : List (Nat × V)} (h : HB w l W) : HB w l W.drew := by
  refine ⟨h.below.drew, h.lt, ?_⟩
  exact h.boxes.same h.lt (fun _ _ _ => rfl)
theorem HB.tail {w W : World} {l : List (Nat × V)} {p : Nat × V} (h : HB w (p :: l) W) : HB w l W := ⟨h.below, fun q hq => h.lt q (by simp [hq]), h.boxes.2.2.2⟩
theorem HB.held {w W : World} {l : List (Nat × V)} (h : HB w l W) : Held w W.heap.size l W := ⟨Nat.le_refl _, h.below, h.boxes⟩
theorem args1_raw {w : World} {H : Nat} {k i : Int} {s : ByteArray} (hH : w.heap.size = H) : Args (w.alloc (.cells #[.int .i64 k, .int .i64 i, .string s] 23)) H [⟨k, i, s⟩] := args1 (a := ⟨k, i, s⟩) hH
theorem args2_raw {w : World} {H : Nat} {k i k' i' : Int} {s s' : ByteArray} (hH : w.heap.size = H) : Args (w.alloc (.cells #[.int .i64 k, .int .i64 i, .string s, .int .i64 k', .int .i64 i', .string s'] 23)) H [⟨k, i, s⟩, ⟨k', i', s'⟩] := args2 (a := ⟨k, i, s⟩) (b := ⟨k', i', s'⟩) hH
end Go.Proofs.YtdffnkopbackiaaDoor
