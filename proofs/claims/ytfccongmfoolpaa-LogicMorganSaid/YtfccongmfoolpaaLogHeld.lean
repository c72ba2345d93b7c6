/- Boxes of values that a statement reads in whatever order: what becomes of them when memory grows. No condition. -/
import Derived.Test.YtfccongmfoolpaaLogRIn2
namespace Go.Proofs.Ytfccongmfoolpaa
open Go.RowKit
theorem bcell {W w1 : World} (hb : Below W.heap.size W w1) : (∀ b o, b < W.heap.size → w1.cell? ⟨b, o, none⟩ = W.cell? ⟨b, o, none⟩) ∧ (∀ b o, b < W.heap.size → w1.frozen? ⟨b, o, none⟩ = W.frozen? ⟨b, o, none⟩) :=
  ⟨fun b o h => hb.cell (p := ⟨b, o, none⟩) h, fun b o h => hb.frozen (p := ⟨b, o, none⟩) h⟩
def Boxes : List (Nat × V) → World → Prop
  | [], _ => True
  | p :: l, w' => w'.cell? ⟨p.1, 0, none⟩ = some (.int .i64 p.2.k) ∧ w'.cell? ⟨p.1, 1, none⟩ = some (.int .i64 p.2.i) ∧ w'.cell? ⟨p.1, 2, none⟩ = some (.string p.2.s) ∧ Boxes l w'
def AllLt (top : Nat) (l : List (Nat × V)) : Prop := ∀ p ∈ l, p.1 < top
theorem Boxes.same {l : List (Nat × V)} {top : Nat} {w w' : World} (hl : AllLt top l) (h : Boxes l w) (hc : ∀ b o, b < top → w'.cell? ⟨b, o, none⟩ = w.cell? ⟨b, o, none⟩) : Boxes l w' := by
  induction l with
  | nil => trivial
  | cons p l ih =>
    obtain ⟨h0, h1, h2, h3⟩ := h
    have hp := hl p (by simp)
    exact ⟨(hc _ _ hp).trans h0, (hc _ _ hp).trans h1, (hc _ _ hp).trans h2, ih (fun q hq => hl q (by simp [hq])) h3⟩
/-- The boxes l, all below top; and all that was there before. -/
def Held (w : World) (top : Nat) (l : List (Nat × V)) (w' : World) : Prop := top ≤ w'.heap.size ∧ Below w.heap.size w w' ∧ Boxes l w'
theorem Held.later {w w' w2 : World} {top : Nat} {l : List (Nat × V)} (hl : AllLt top l) (hw : w.heap.size ≤ top) (h : Held w top l w') (hb : Below w'.heap.size w' w2) : Held w top l w2 :=
  ⟨Nat.le_trans h.1 hb.size, h.2.1.trans (hb.mono (Nat.le_trans hw h.1)), h.2.2.same hl (fun b o hlt => hb.cell (p := ⟨b, o, none⟩) (Nat.lt_of_lt_of_le hlt h.1))⟩
theorem Held.alloc {w w' : World} {top : Nat} {l : List (Nat × V)} (hl : AllLt top l) (hw : w.heap.size ≤ top) (h : Held w top l w') (o : Obj) : Held w top l (w'.alloc o) :=
  h.later hl hw ((Below.refl _ _).alloc (Nat.le_refl _) o)
theorem Held.drew {w w' : World} {top : Nat} {l : List (Nat × V)} (h : Held w top l w') : Held w top l w'.drew := by
  refine ⟨h.1, h.2.1.drew, ?_⟩
  have := h.2.2
  revert this
  clear h
  induction l with
  | nil => exact id
  | cons p l ih => exact fun h => ⟨h.1, h.2.1, h.2.2.1, ih h.2.2.2⟩
theorem Boxes.of {l : List (Nat × V)} {w : World} (h : ∀ p ∈ l, VBox w p.1 p.2) : Boxes l w := by
  induction l with
  | nil => trivial
  | cons p l ih =>
    have hp := (h p (by simp)).cells
    exact ⟨hp.1, hp.2.1, hp.2.2, ih (fun q hq => h q (by simp [hq]))⟩
theorem Held.of {w w' : World} {top : Nat} {l : List (Nat × V)} (ht : top ≤ w'.heap.size) (hb : Below w.heap.size w w') (h : Boxes l w') : Held w top l w' := ⟨ht, hb, h⟩
theorem allLt_nil {top : Nat} : AllLt top [] := fun _ h => by cases h
theorem allLt_cons {top : Nat} {p : Nat × V} {l : List (Nat × V)} (h : p.1 < top) (hl : AllLt top l) : AllLt top (p :: l) := fun q hq => by
  rcases List.mem_cons.1 hq with rfl | hq
  · exact h
  · exact hl q hq
theorem boxes_nil {w : World} : Boxes [] w := trivial
theorem boxes_cons {w : World} {b : Nat} {v : V} {l : List (Nat × V)} (h : VBox w b v) (hl : Boxes l w) : Boxes ((b, v) :: l) w := ⟨h.cells.1, h.cells.2.1, h.cells.2.2, hl⟩
theorem Held.set3 {w w' : World} {top : Nat} {l : List (Nat × V)} (hl : AllLt top l) (hw : w.heap.size ≤ top) (h : Held w top l w') {b : Nat} (hb : top ≤ b) (x y z : Value) : Held w top l (((w'.setCell ⟨b, 0, none⟩ x).setCell ⟨b, 1, none⟩ y).setCell ⟨b, 2, none⟩ z) := by
  refine ⟨by simpa using h.1, Below.set3 h.2.1 (Nat.le_trans hw hb) x y z, h.2.2.same hl (fun b' o hlt => ?_)⟩
  refine World.cell?_of_block (w := w') ?_
  rw [Below.heap_setCell _ _ _ _ (by show b' ≠ b; omega), Below.heap_setCell _ _ _ _ (by show b' ≠ b; omega), Below.heap_setCell _ _ _ _ (by show b' ≠ b; omega)]
theorem Held.realloc {w w' : World} {top : Nat} {l : List (Nat × V)} {o : Obj} (hl : AllLt top l) (hw : w.heap.size ≤ top) (hs : top ≤ w'.heap.size) (h : Held w top l (w'.alloc o)) (o' : Obj) : Held w top l (w'.alloc o') := by
  obtain ⟨h1, h2, h3⟩ := h
  refine ⟨by simp; omega, ⟨h2.os, h2.tape, h2.output, by simp; omega, fun k hk => ?_⟩, h3.same hl (fun b o hlt => ?_)⟩
  · rw [← h2.block k hk, Below.heap_alloc _ _ _ (by omega), Below.heap_alloc _ _ _ (by omega)]
  · rw [World.cell?_alloc_lt _ _ _ (by show b < _; omega), World.cell?_alloc_lt _ _ _ (by show b < _; omega)]
theorem VBox.made' {w : World} {H : Nat} (hH : w.heap.size = H) (v : V) : VBox (w.alloc (.cells #[.int .i64 v.k, .int .i64 v.i, .string v.s] 24)) H v := by
  subst hH
  exact VBox.made w v
theorem VBox.mk' {w : World} {H : Nat} {v : V} {k i : Int} {s : ByteArray} (hH : w.heap.size = H) (h1 : v.k = k) (h2 : v.i = i) (h3 : v.s = s) : VBox (w.alloc (.cells #[.int .i64 k, .int .i64 i, .string s] 24)) H v := by
  subst hH h1 h2 h3
  exact VBox.made w v
theorem VBox.raw0z {w : World} : VBox (w.alloc (.cells #[.int .i64 0, .int .i64 0, .string ⟨#[]⟩] 24)) w.heap.size zV := VBox.made w zV
theorem row2_raw {w : World} {H : Nat} {k i k' i' : Int} {s s' : ByteArray} (hH : w.heap.size = H) : RowAt (w.alloc (.cells #[.int .i64 k, .int .i64 i, .string s, .int .i64 k', .int .i64 i', .string s'] 24)) (w.alloc (.cells #[.int .i64 k, .int .i64 i, .string s, .int .i64 k', .int .i64 i', .string s'] 24)).heap.size (some ⟨H, 0, none⟩) [⟨k, i, s⟩, ⟨k', i', s'⟩] := by
  subst hH
  exact w4of_row w ⟨k, i, s⟩ ⟨k', i', s'⟩
theorem row2_rawz {w : World} {k i k' i' : Int} {s s' : ByteArray} : RowAt (w.alloc (.cells #[.int .i64 k, .int .i64 i, .string s, .int .i64 k', .int .i64 i', .string s'] 24)) (w.alloc (.cells #[.int .i64 k, .int .i64 i, .string s, .int .i64 k', .int .i64 i', .string s'] 24)).heap.size (some ⟨w.heap.size, 0, none⟩) [⟨k, i, s⟩, ⟨k', i', s'⟩] := row2_raw rfl
theorem with_fact {A P : Prop} (h : A) (k : A → P) : P := k h
theorem VBox.set' {w : World} {b : Nat} {v : V} (h : VBox w b v) {k i : Int} {s : ByteArray} {u : V} (h1 : u.k = k) (h2 : u.i = i) (h3 : u.s = s) : VBox (((w.setCell ⟨b, 0, none⟩ (.int .i64 k)).setCell ⟨b, 1, none⟩ (.int .i64 i)).setCell ⟨b, 2, none⟩ (.string s)) b u := by
  subst h1 h2 h3
  exact h.set u
/-- Two values laid side by side in a block of their own. -/
theorem row2_at {w : World} {H : Nat} (hH : w.heap.size = H) (a b : V) : RowAt (w.alloc (.cells #[.int .i64 a.k, .int .i64 a.i, .string a.s, .int .i64 b.k, .int .i64 b.i, .string b.s] 24)) (w.alloc (.cells #[.int .i64 a.k, .int .i64 a.i, .string a.s, .int .i64 b.k, .int .i64 b.i, .string b.s] 24)).heap.size (some ⟨H, 0, none⟩) [a, b] := by
  subst hH
  exact w4of_row w a b
theorem RowAt.moreAlloc {w : World} {A : Option Addr} {xs : List V} (h : RowAt w w.heap.size A xs) (o : Obj) : RowAt (w.alloc o) (w.alloc o).heap.size A xs := h.later (Below.alloc (Below.refl _ _) (Nat.le_refl _) o)
end Go.Proofs.Ytfccongmfoolpaa
